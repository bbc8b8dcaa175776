/- The walk of (*line).part: a sign, or what may stand between tokens. -/
import Derived.Test.YtbpahdgkedfmdaaDoorLexLine
import Derived.Handy
import Derived.Deep.RegionLaw
namespace Go.Proofs.YtbpahdgkedfmdaaDoor
open Go.RowKit Go.Lib
attribute [local go_sem ↓] Go.wp_at_zero Go.wp_at_succ

set_option maxRecDepth 100000 in
theorem sign_index : ∀ r : Fin 128, decide (0 ≤ Lib.indexByte [61, 58, 44, 46, 43, 45, 47, 42, 40, 41] ((r.val : Int).toNat.toUInt8)) = isSign r.val := by decide

theorem info_tok : (Tryd.prog.info? 32).map (fun i => (i.zero, i.size, i.bytes)) = some (some tok0, 4, 40) := by kernel_rfl

variable {B N : Nat} {w0 : World} {s : ByteArray} {pos : Nat} {v : Value} {toks : List Tok} {at_ : Nat} {op : Bool} {pl fr : Nat}

theorem encode_low (r : Nat) (hr : r < 128) : Utf8.encode (r : Int) = ⟨[r.toUInt8].toArray⟩ := by
  have hv : Utf8.valid (r : Int) = true := by rw [validRune_eq]; exact decide_eq_true (by omega)
  unfold Utf8.encode
  simp [hv, hr]
theorem contains_any (r : Nat) (w : World) (hr : r < 128) :
    Calls Tryd.prog 35 #[.string ⟨#[61, 58, 44, 46, 43, 45, 47, 42, 40, 41]⟩, .int .i32 r] w fun e w' => e = .returned (.bool (isSign r)) ∧ w = w' := by
  have := Tryd.strings_ContainsRune_ascii ⟨#[61, 58, 44, 46, 43, 45, 47, 42, 40, 41]⟩ r w (by omega) (by omega)
  rw [show isSign r = _ from (sign_index ⟨r, hr⟩).symm]
  exact this.mono fun _ _ h => ⟨h.1, h.2.symm⟩

set_option maxRecDepth 100000 in
set_option maxHeartbeats 4000000 in
theorem part_no (N r : Nat) (w : World) (hr : r < 128) (hs : isSign r = false) (h1 : r ≠ 32) (h2 : r ≠ 9) :
    Calls Tryd.prog 21 #[.pointer (some ⟨N, 0, none⟩), .int .i32 r] w fun e w' => e = .returned (.bool false) ∧ w = w' := by
  have cC := contains_any r w hr
  rw [hs] at cC
  have e1 : ((r : Int) != 32) = true := by simp; omega
  have e2 : ((r : Int) != 9) = true := by simp; omega
  clear hs
  go_enter Tryd.func21, Tryd.ntmps21
  go_wp2_with (go_at_call 35; refine cC.mono ?_; rintro e w' ⟨rfl, rfl⟩)
  go_ret
  exact ⟨rfl, rfl⟩
set_option maxRecDepth 100000 in
set_option maxHeartbeats 4000000 in
theorem part_blank (r : Nat) (w : World) (hr : r = 32 ∨ r = 9) (hat : at_ < 1000000) (h : Line B N w0 s pos v toks at_ op pl fr w) :
    Calls Tryd.prog 21 #[.pointer (some ⟨N, 0, none⟩), .int .i32 r] w fun e w' => e = .returned (.bool true) ∧ Line B N w0 s pos v toks (at_ + 1) op pl fr w' := by
  have cC := contains_any r w (by omega)
  have hs : isSign r = false := by rcases hr with rfl | rfl <;> rfl
  rw [hs] at cC
  have c1 := h.cell 1
  have f1 := h.frozen 1
  simp at c1
  have H : Hid (Line B N w0 s pos v toks at_ op pl fr w) := h
  clear h hs
  rcases hr with rfl | rfl
  · go_enter Tryd.func21, Tryd.ntmps21
    go_wp2_with (go_at_call 35; refine cC.mono ?_; rintro e w' ⟨rfl, rfl⟩)
    go_ret
    exact ⟨rfl, H.out.set1 (at_ + 1)⟩
  · go_enter Tryd.func21, Tryd.ntmps21
    go_wp2_with (go_at_call 35; refine cC.mono ?_; rintro e w' ⟨rfl, rfl⟩)
    go_ret
    exact ⟨rfl, H.out.set1 (at_ + 1)⟩

set_option maxRecDepth 100000 in
set_option maxHeartbeats 4000000 in
theorem part_sign (r : Nat) (w : World) (hr : r < 128) (hs : isSign r = true) (hat : at_ < 1000000) (hn : toks.length < 1000000) (h : Line B N w0 s pos v toks at_ op pl fr w) :
    Calls Tryd.prog 21 #[.pointer (some ⟨N, 0, none⟩), .int .i32 r] w fun e w' => e = .returned (.bool true) ∧ ∃ v', Line B N w0 s pos v' (toks ++ [⟨3, [r.toUInt8], 0, at_⟩]) (at_ + 1) op pl fr w' := by
  have cC := contains_any r w hr
  rw [hs] at cC
  have c0 := h.cell 0
  have c1 := h.cell 1
  have f0 := h.frozen 0
  have f1 := h.frozen 1
  simp at c0 c1
  have hlt := h.lt
  have ag : v.ownBlock ≠ some N := fun e => by have := (h.owns.lt N e).1; omega
  have hown := h.owns
  have H : Hid (Line B N w0 s pos v toks at_ op pl fr w) := h
  obtain ⟨i0, hi0, hz0, hz1, hz2⟩ := info_parts info_tok
  obtain ⟨U, hU, hU2⟩ : ∃ U : ByteArray, Utf8.encode (r : Int) = U ∧ Hid (U = ⟨[r.toUInt8].toArray⟩) := ⟨_, rfl, encode_low r hr⟩
  clear h hs
  have c0a := fun o => cell_past c0 o
  have hbig : toks.length + 1 ≤ maxLen := by unfold maxLen; omega
  go_enter Tryd.func21, Tryd.ntmps21
  go_wp2_with (go_at_call 35; refine cC.mono ?_; rintro e w' ⟨rfl, rfl⟩)
  go_region_law
    ((refine step_append_lies _ (by rfl) _ _ _ (by rfl) (N + 2) 32 i0 _ 4 40 Tryd.underlying23 hi0 hz0 hz1 hz2 rfl (by omega) v toks.length (toksCells toks) (by rfl) ((hown.alloc _).drew)
        ⟨w.heap.size, 0, none⟩ 1 1 [.int .i64 3, .string U, .int .u64 0, .int .i64 at_] (by rfl) (by rfl) (World.news_of_block (cs := #[.int .i64 3, .string U, .int .u64 0, .int .i64 at_]) (t := 32) (fr := (0, 0)) (heap_alloc_new w _)) (by simp [Value.oneCell'])
        (by omega) hbig (by omega) (by simp; omega) (w.heap.size + 1) (by simp) ?_; intro g cap w1 hown1 hgrow hat' hlt'; have k0 := far_cell hgrow (a := ⟨N, 0, none⟩) (by show N < _; omega) ag c0; have k1 := far_cell hgrow (a := ⟨N, 1, none⟩) (by show N < _; omega) ag c1; have j0 := far_frozen hgrow (a := ⟨N, 0, none⟩) (by show N < _; omega) ag f0; have j1 := far_frozen hgrow (a := ⟨N, 1, none⟩) (by show N < _; omega) ag f1))
  all_goals
    go_wp2
    go_ret
    refine ⟨rfl, _, Line.set1 (Line.push (t := ⟨3, [r.toUInt8], 0, at_⟩) (H.out.later ((Below.refl _ _).alloc (Nat.le_refl _) _).drew) hgrow ?_) (at_ + 1)⟩
    have e : tokCells ⟨3, [r.toUInt8], 0, at_⟩ = [.int .i64 3, .string U, .int .u64 0, .int .i64 at_] := by rw [hU2.out]; rfl
    rw [e]
    exact hown1
end Go.Proofs.YtbpahdgkedfmdaaDoor
