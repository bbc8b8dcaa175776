/- The walks under lex.Show: strconv's own text, in the base 16, and below 10. -/
import Derived.Test.YtkedoajkdobjdaaDoorShMath
import Derived.Test.YtkedoajkdobjdaaDoorProg
import Derived.OneCell
import Derived.Deep.RegionHeld3
import Derived.Deep.DrawnRows
import Derived.Deep.DeepCutAuto
import Derived.Laws.BytesArg
import Derived.Lib.Bytes
import Derived.Laws.Bits64b
namespace Go.Proofs.YtkedoajkdobjdaaDoor
open Go.RowKit Go.Lib

/-- The cell of math/bits.deBruijn64tab that is read for 16. -/
def Tz (w : World) : Prop := w.cell? ⟨9, 15, none⟩ = some (.int .u8 4)
theorem Tz.later {w w' : World} (h : Tz w) (hb : Below w.heap.size w w') : Tz w' := by
  unfold Tz at h ⊢
  rw [hb.cell (World.block_lt_of_cell? w _ h)]
  exact h

theorem tz64 (w : World) (h : Tz w) : Calls Tryd.prog 85 #[.int .u64 16] w fun e w' => e = .returned (.int .i64 4) ∧ w = w' := by
  unfold Tz at h
  have e1 : IntKind.u64.wrap (-16) = 18446744073709551600 := by kernel_rfl
  have e2 : bits BinOp.and IntKind.u64 16 18446744073709551600 = 16 := by kernel_rfl
  have e3 : IntKind.u64.wrap 4573923408821661840 = 4573923408821661840 := by kernel_rfl
  go_enter Tryd.func85, Tryd.ntmps85
  go_wp2
  go_ret
  exact ⟨rfl, rfl⟩
theorem tz (w : World) (h : Tz w) : Calls Tryd.prog 81 #[.int .u64 16] w fun e w' => e = .returned (.int .i64 4) ∧ w = w' := by
  go_enter Tryd.func81, Tryd.ntmps81
  go_wp2_with (go_at_call 85; refine (tz64 _ h).mono ?_; rintro e w' ⟨rfl, rfl⟩)
  go_ret
  exact ⟨rfl, rfl⟩
theorem pow2 (w : World) : Calls Tryd.prog 80 #[.int .i64 16] w fun e w' => e = .returned (.bool true) ∧ w = w' := by
  go_enter Tryd.func80, Tryd.ntmps80
  go_wp2
  go_ret
  exact ⟨rfl, rfl⟩

theorem and15 (x : Nat) (h : x < 18446744073709551616) : bits .and .u64 (x : Int) 15 = ((x % 16 : Nat) : Int) := by
  have := bits_and_u64_nat x 15 h (by omega)
  rw [show ((15 : Nat) : Int) = 15 from rfl] at this
  rw [this]
  congr 1
  exact Nat.and_two_pow_sub_one_eq_mod x 4

/-- strconv's digits. -/
def digs : ByteArray := ⟨#[48, 49, 50, 51, 52, 53, 54, 55, 56, 57, 97, 98, 99, 100, 101, 102, 103, 104, 105, 106, 107, 108, 109, 110, 111, 112, 113, 114, 115, 116, 117, 118, 119, 120, 121, 122]⟩
theorem digs_at : ∀ d : Fin 16, ((digs[d.val]'(by have := d.isLt; show d.val < 36; omega)).toNat) = hexB d.val := by decide

/-- What the loop of formatBits knows: x is left, the digits ds are written from i on. -/
structure Dig (w : World) (u x i : Nat) (ds : List Nat) (wr : World) : Prop where
  below : Below w.heap.size w wr
  rest : hexL u = hexL x ++ ds
  len : i + ds.length = 65
  blk : ∃ C : Array Value, wr.heap[w.heap.size]? = some (.cells C 107 (0, 0)) ∧ C.size = 65 ∧ ∀ j, j < ds.length → C[i + j]? = some (.int .u8 (ds.getD j 0 : Nat))
theorem Dig.bound {w wr : World} {u x i : Nat} {ds : List Nat} (h : Dig w u x i ds wr) : 49 ≤ i ∧ i ≤ 65 := by
  have h1 := congrArg List.length h.rest
  have h2 := hexL_len u
  rw [List.length_append] at h1
  have := h.len
  omega
theorem Dig.bound1 {w wr : World} {u x i : Nat} {ds : List Nat} (h : Dig w u x i ds wr) : 50 ≤ i := by
  have h1 := congrArg List.length h.rest
  have h2 := hexL_len u
  have h3 := List.length_pos_iff.2 (hexG_ne 16 x (by omega))
  rw [List.length_append] at h1
  have e : (hexL x).length = (hexG 16 x).length := rfl
  have := h.len
  omega
theorem Dig.cell {w wr : World} {u x i : Nat} {ds : List Nat} (h : Dig w u x i ds wr) (j : Nat) (hj : j < 65) : (∃ v, wr.cell? ⟨w.heap.size, j, none⟩ = some v) ∧ wr.frozen? ⟨w.heap.size, j, none⟩ = false := by
  obtain ⟨C, hC, hs, _⟩ := h.blk
  exact ⟨⟨C[j]'(by omega), by rw [cell_of_row _ _ _ _ _ _ hC, Array.getElem?_eq_getElem (by omega)]⟩, frozen_of_row _ _ _ _ _ hC⟩
theorem Dig.put {w wr : World} {u x x' p d : Nat} {ds : List Nat} (h : Dig w u x (p + 1) ds wr) (hx : hexL x = hexL x' ++ [hexB d]) :
    Dig w u x' p (hexB d :: ds) (wr.setCell ⟨w.heap.size, p, none⟩ (.int .u8 (hexB d : Nat))) := by
  obtain ⟨C, hC, hs, hd⟩ := h.blk
  have hl := h.len
  refine ⟨h.below.setCell (Nat.le_refl _) _, by rw [h.rest, hx]; simp, by simp; omega, _, heap_setCell_same _ _ _ _ _ _ hC, by simpa using hs, fun j hj => ?_⟩
  cases j with
  | zero => rw [Nat.add_zero, Array.getElem?_setIfInBounds, if_pos rfl, if_pos (by omega)]; rfl
  | succ j =>
    have e : p + (j + 1) = p + 1 + j := by omega
    rw [e, Array.getElem?_setIfInBounds, if_neg (by omega), hd j (by simpa using hj)]
    simp [List.getD]
/-- Behind the last digit: the text. -/
theorem Dig.text {w wr : World} {u x p n : Nat} {ds : List Nat} (h : Dig w u x (p + 1) ds wr) (hx : x < 16) (hn : p + n = 65) (src e dst : TypeId) (cap : Nat)
    (hs : Tryd.prog.underlying src = some (.slice e)) (he : Tryd.prog.underlying e = some (.int .u8)) (hd : Tryd.prog.underlying dst = some .string) :
    (convert src dst (.slice (some ⟨w.heap.size, p, none⟩) n cap)).run Tryd.prog (wr.setCell ⟨w.heap.size, p, none⟩ (.int .u8 (hexB x : Nat))) = .ok (.string ⟨((hexL u).map (·.toUInt8)).toArray⟩) (wr.setCell ⟨w.heap.size, p, none⟩ (.int .u8 (hexB x : Nat))) ∧
    Below w.heap.size w (wr.setCell ⟨w.heap.size, p, none⟩ (.int .u8 (hexB x : Nat))) := by
  obtain ⟨C, hC, hsz, hdd⟩ := h.blk
  have hl := h.len
  have hu : hexL u = hexB x :: ds := by rw [h.rest, hexL_small x hx]; rfl
  have hC2 := heap_setCell_same wr w.heap.size p C _ (.int .u8 (hexB x : Nat)) hC
  refine ⟨?_, h.below.setCell (Nat.le_refl _) _⟩
  rw [run_convert_bytes_arg (P := Tryd.prog) _ src e hs he w.heap.size p n cap ((hexL u).map Int.ofNat) (by rw [hu]; simp; omega) (fun j hj => ?_) dst hd]
  · unfold strOfNums
    simp [List.map_map, Function.comp_def]
  · rw [cell_of_row _ _ _ _ _ _ hC2, hu]
    cases j with
    | zero => rw [Nat.add_zero, Array.getElem?_setIfInBounds, if_pos rfl, if_pos (by omega)]; rfl
    | succ j =>
      have e1 : p + (j + 1) = p + 1 + j := by omega
      rw [e1, Array.getElem?_setIfInBounds, if_neg (by omega), hdd j (by omega)]
      simp [List.getD]
      cases ds[j]? <;> rfl

theorem len65 : Tryd.prog.arrayLen 107 = 65 := by kernel_rfl
theorem el65 : Tryd.prog.elem 107 = 5 := by kernel_rfl
theorem sl65 (W : World) (H p n : Nat) (h1 : p < 65) (hn : p + n = 65) : (Instr.sliceAt 107 (.pointer (some ⟨H, 0, none⟩)) (some (.int .i64 (p : Int))) none none).run Tryd.prog W = .ok (.slice (some ⟨H, p, none⟩) n n) W := by
  rw [run_sliceAt_array_l W _ _ (by rw [len65, el65]; exact Tryd.underlying107) _ _ (by omega) (by rw [len65]; omega), el65, Tryd.sizeOf5, len65]
  unfold slicedAt
  simp only [Result.andThen]
  rw [if_neg (by omega)]
  have e1 : (65 : Nat) - ((p : Int)).toNat = n := by omega
  have e2 : (⟨H, 0, none⟩ : Addr).add (((p : Int)).toNat * 1) = ⟨H, p, none⟩ := by unfold Addr.add; split <;> simp_all
  rw [e1, e2]

set_option maxRecDepth 100000 in
set_option maxHeartbeats 4000000 in
theorem formatBits_hex (u : Nat) (hu : u < 18446744073709551616) (w : World) (hT : Tz w) :
    Calls Tryd.prog 73 #[.slice none 0 0, .int .u64 u, .int .i64 16, .bool false, .bool false] w fun e w' =>
      e = .returned (.tuple #[.slice none 0 0, .string ⟨((hexL u).map (·.toUInt8)).toArray⟩]) ∧ Below w.heap.size w w' := by
  have hT1 := fun o => hT.later ((Below.refl _ _).alloc (Nat.le_refl _) o)
  go_enter Tryd.func73, Tryd.ntmps73
  go_wp2_with (first
    | (go_at_call 80; refine (pow2 _).mono ?_; rintro e w' ⟨rfl, rfl⟩)
    | (go_at_call 81; refine (tz _ (hT1 _)).mono ?_; rintro e w' ⟨rfl, rfl⟩))
  go_loopw [1, 13] (fun uu ii wr => ∃ (x i : Nat) (ds : List Nat), uu = .int .u64 x ∧ ii = .int .i64 i ∧ x < 18446744073709551616 ∧ Dig w u x i ds wr) (fun uu _ _ => (RowKit.intOf uu).toNat)
  case atStart =>
    refine ⟨u, 65, [], rfl, rfl, hu, (Below.refl _ _).alloc (Nat.le_refl _) _, by simp, rfl, _, heap_alloc_new _ _, rfl, fun j hj => by simp at hj⟩
  case round =>
    obtain ⟨x, i, ds, rfl, rfl, hx, hD⟩ := hrel
    have hb := hD.bound
    have hb1 := hD.bound1
    obtain ⟨p, rfl⟩ : ∃ p, i = p + 1 := ⟨i - 1, by omega⟩
    obtain ⟨⟨cv, hcv⟩, hfz⟩ := hD.cell p (by omega)
    have hp0 : (0 : Int) ≤ (p : Int) := by omega
    have hp1 : (p : Int) < 65 := by omega
    have HD : Hid (Dig w u x (p + 1) ds wr) := hD
    clear hD hb hb1
    by_cases hlt : x < 16
    · have hxz : (x : Int) < 16 := by omega
      obtain ⟨n, hn⟩ : ∃ n, p + n = 65 := ⟨65 - p, by omega⟩
      have hsl : ∀ W, (Instr.sliceAt 107 (.pointer (some ⟨w.heap.size, 0, none⟩)) (some (.int .i64 (p : Int))) none none).run Tryd.prog W = .ok (.slice (some ⟨w.heap.size, p, none⟩) n n) W := fun W => sl65 W w.heap.size p n (by omega) hn
      have hdig : ∀ h : x < digs.size, (digs[x]'h).toNat = hexB x := fun _ => digs_at ⟨x, hlt⟩
      obtain ⟨hcv2, hbe⟩ := HD.out.text hlt hn 77 5 9 n Tryd.underlying77 Tryd.underlying5 Tryd.underlying9
      unfold digs at hdig
      have HBE : Hid (Below w.heap.size w (wr.setCell ⟨w.heap.size, p, none⟩ (.int .u8 (hexB x : Nat)))) := hbe
      clear hbe
      go_wp2_with fail
      go_ret2
      exact ⟨rfl, HBE.out⟩
    · have hxz : (16 : Int) ≤ (x : Int) := by omega
      have ha := and15 x hx
      have hdig : ∀ h : x % 16 < digs.size, (digs[x % 16]'h).toNat = hexB (x % 16) := fun _ => digs_at ⟨x % 16, by omega⟩
      unfold digs at hdig
      go_wp2_with fail
      go_roundw
      case rel =>
        refine ⟨x / 16, p, hexB (x % 16) :: ds, by go_num, rfl, by omega, ?_⟩
        exact HD.out.put (hexL_step x hx hlt)
      case measure => simp [RowKit.intOf]; omega

/-- One decimal digit. -/
def dig1 (x : Nat) : ByteArray := ⟨#[(48 + x).toUInt8]⟩
theorem small_slice (i : Nat) (hi : i < 10) (W : World) : (Instr.slice 9 (.string ⟨#[48, 49, 50, 51, 52, 53, 54, 55, 56, 57, 97, 98, 99, 100, 101, 102, 103, 104, 105, 106, 107, 108, 109, 110, 111, 112, 113, 114, 115, 116, 117, 118, 119, 120, 121, 122]⟩)
    (some (.int .i64 (i : Int))) (some (.int .i64 ((i : Int) + 1))) none).run Tryd.prog W = .ok (.string (dig1 i)) W := by
  rcases (by omega : i = 0 ∨ i = 1 ∨ i = 2 ∨ i = 3 ∨ i = 4 ∨ i = 5 ∨ i = 6 ∨ i = 7 ∨ i = 8 ∨ i = 9) with rfl | rfl | rfl | rfl | rfl | rfl | rfl | rfl | rfl | rfl <;> kernel_rfl
theorem small_any (i : Nat) (hi : i < 10) (w : World) : Calls Tryd.prog 70 #[.int .i64 i] w fun e w' => e = .returned (.string (dig1 i)) ∧ w = w' := by
  have hE := small_slice i hi
  go_enter Tryd.func70, Tryd.ntmps70
  go_wp2
  go_ret
  exact ⟨rfl, rfl⟩
theorem fmt10 (x : Nat) (hx : x < 10) (w : World) : Calls Tryd.prog 48 #[.int .u64 x, .int .i64 10] w fun e w' => e = .returned (.string (dig1 x)) ∧ w = w' := by
  have c2 : Calls Tryd.prog 63 #[.int .u64 x, .int .i64 10] w fun e w' => e = .returned (.string (dig1 x)) ∧ w = w' := by
    go_enter Tryd.func63, Tryd.ntmps63
    go_wp2_with (go_at_call 70; refine (small_any x hx _).mono ?_; rintro e w' ⟨rfl, rfl⟩)
    go_ret
    exact ⟨rfl, rfl⟩
  go_enter Tryd.func48, Tryd.ntmps48
  go_wp2_with (go_at_call 63; refine c2.mono ?_; rintro e w' ⟨rfl, rfl⟩)
  go_ret
  exact ⟨rfl, rfl⟩
theorem fmt16 (x : Nat) (hx : x < 18446744073709551616) (w : World) (hT : Tz w) : Calls Tryd.prog 48 #[.int .u64 x, .int .i64 16] w fun e w' => e = .returned (.string ⟨((hexL x).map (·.toUInt8)).toArray⟩) ∧ Below w.heap.size w w' := by
  have c2 : Calls Tryd.prog 63 #[.int .u64 x, .int .i64 16] w fun e w' => e = .returned (.string ⟨((hexL x).map (·.toUInt8)).toArray⟩) ∧ Below w.heap.size w w' := by
    go_enter Tryd.func63, Tryd.ntmps63
    go_wp2_with (go_at_call 73; refine (formatBits_hex x hx _ hT).mono ?_; rintro e w' ⟨rfl, hb⟩)
    go_ret
    exact ⟨rfl, hb⟩
  go_enter Tryd.func48, Tryd.ntmps48
  go_wp2_with (go_at_call 63; refine c2.mono ?_; rintro e w' ⟨rfl, hb⟩)
  go_ret
  exact ⟨rfl, hb⟩
theorem show_any (x : Nat) (hx : x < 18446744073709551616) (w : World) (hT : Tz w) : Calls Tryd.prog 31 #[.int .u64 x] w fun e w' => e = .returned (.string (showB x)) ∧ Below w.heap.size w w' := by
  by_cases h10 : x < 10
  · have e : showB x = dig1 x := by unfold showB showL; rw [if_pos h10]; rfl
    rw [e]
    go_enter Tryd.func31, Tryd.ntmps31
    go_wp2_with (go_at_call 48; refine (fmt10 x h10 _).mono ?_; rintro e w' ⟨rfl, rfl⟩)
    go_ret
    exact ⟨rfl, Below.refl _ _⟩
  · have e : showB x = ⟨#[48, 120]⟩ ++ ⟨((hexL x).map (·.toUInt8)).toArray⟩ := by
      unfold showB showL
      rw [if_neg h10]
      apply ByteArray.ext
      rw [ByteArray.data_append]
      simp
    have cF := fmt16 x hx w hT
    have hl := hexL_len x
    rw [e]
    clear e
    obtain ⟨S, hS⟩ : ∃ S : ByteArray, S = ⟨((hexL x).map (·.toUInt8)).toArray⟩ := ⟨_, rfl⟩
    have hs : S.size ≤ 16 := by rw [hS]; show (((hexL x).map (·.toUInt8)).toArray).size ≤ 16; simpa using hl
    rw [← hS] at cF ⊢
    clear hS hl
    go_enter Tryd.func31, Tryd.ntmps31
    go_wp2_with (go_at_call 48; refine cF.mono ?_; rintro e w' ⟨rfl, hb⟩)
    go_ret
    exact ⟨rfl, hb⟩
end Go.Proofs.YtkedoajkdobjdaaDoor
