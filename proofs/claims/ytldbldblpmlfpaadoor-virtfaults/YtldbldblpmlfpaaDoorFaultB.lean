/- Faults: a word's fault, as the program reads it. -/
import Derived.Test.YtldbldblpmlfpaaDoorFaultA
import Derived.Deep.DeepCutAuto
import Derived.Deep.RegionHeld3
import Derived.Laws.ResultCell
namespace Go.Proofs.YtldbldblpmlfpaaDoor
open Go.RowKit

theorem results_row_tmp {P : Program} {fn : Func} {p u : Tmp} {ty : TypeId} (h : fn.results = #[.cell p ty, .tmp u]) (tmps : Array Value) (w : World) (g : Nat) (t : TypeId) (cs : Array Value) (fr : Nat × Nat) (d : TypeDesc)
    (hp : tmps.getD p undef = .pointer (some ⟨g, 0, none⟩)) (hg : w.heap[g]? = some (.cells cs t fr))
    (hu : P.underlying ty = some d) (hd : (match d with | .struct _ | .array _ _ => true | _ => false) = true) (hi : (P.info? ty).map (·.size) = some cs.size) :
    (results fn tmps).run P w = .ok (.tuple #[.agg cs, tmps.getD u undef]) w := by
  rw [results_cell_tmp h, hp]
  simp [asAddr, run_loadVar_row w g t ty cs fr d hg hu hd hi, Result.andThen]

theorem cell_alloc {W : World} {o : Obj} {a : Addr} {v : Value} (h : W.cell? a = some v) : (W.alloc o).cell? a = some v :=
  cell_later (below_new W o) h
theorem cells2 {w1 : World} {g t : Nat} {c0 c1 : Value} (hh : w1.heap[g]? = some (.cells #[c0, c1] t (0, 0))) :
    (w1.cell? ⟨g, 0, none⟩ = some c0 ∧ w1.cell? ⟨g, 1, none⟩ = some c1) ∧ ∀ i, w1.frozen? ⟨g, i, none⟩ = false := by
  refine ⟨⟨?_, ?_⟩, fun i => frozen_of_row _ _ _ _ _ hh⟩
  all_goals (rw [cell_of_row _ _ _ _ _ _ hh]; rfl)
/-- Two cells that are written one behind the other. -/
theorem row2 {w1 : World} {g t : Nat} {c0 c1 : Value} (v0 v1 : Value) (hh : w1.heap[g]? = some (.cells #[c0, c1] t (0, 0))) :
    ((w1.setCell ⟨g, 0, none⟩ v0).setCell ⟨g, 1, none⟩ v1).heap[g]? = some (.cells #[v0, v1] t (0, 0)) := by
  have h0 := heap_setCell_same _ g 0 _ _ v0 hh
  simp only [List.setIfInBounds_toArray, List.set_cons_zero] at h0
  have h1 := heap_setCell_same _ g 1 _ _ v1 h0
  simp only [List.setIfInBounds_toArray, List.set_cons_zero, List.set_cons_succ] at h1
  exact h1
theorem below2 {w w1 : World} {B g : Nat} (hB : Below B w w1) (hg : B ≤ g) (v0 v1 : Value) :
    Below B w ((w1.setCell ⟨g, 0, none⟩ v0).setCell ⟨g, 1, none⟩ v1) := (hB.setCell hg _).setCell hg _
theorem cell2 {w1 : World} {b B g i : Nat} {v v0 v1 : Value} (hlt : b < B) (hge : B ≤ g) (h : w1.cell? ⟨b, i, none⟩ = some v) :
    ((w1.setCell ⟨g, 0, none⟩ v0).setCell ⟨g, 1, none⟩ v1).cell? ⟨b, i, none⟩ = some v := by
  have hn : g ≠ b := by omega
  rw [World.cell?_setCell_far _ _ _ _ hn, World.cell?_setCell_far _ _ _ _ hn]
  exact h
theorem heap_drew (W : World) : W.drew.heap = W.heap := rfl
theorem cell_drew {w : World} {a : Addr} {v : Value} (h : w.cell? a = some v) : w.drew.cell? a = some v := cell_later (Below.refl _ _).drew h
theorem block_lt {w : World} {g : Nat} {o : Obj} (h : w.heap[g]? = some o) : g < w.heap.size := (Array.getElem?_eq_some_iff.1 h).1
/-- A block that a call keeps. -/
theorem block_later {w w' : World} {g : Nat} {o : Obj} (hb : Below w.heap.size w w') (h : w.heap[g]? = some o) : w'.heap[g]? = some o := (hb.block _ (block_lt h)).trans h

/-- What a word seems to say: its kind and its level. -/
def kV (x : Nat) : Nat := getV 0 4 x
def lV (x : Nat) : Nat := getV 4 2 x
theorem kV_mod (x : Nat) : kV x = x % 16 := by
  have := getV_mod (l := 0) (n := 4) (by decide) x
  unfold kV
  rw [show ((0 : Nat) : Int) = 0 from rfl, show ((4 : Nat) : Int) = 4 from rfl] at this
  rw [this]; simp
theorem lV_mod (x : Nat) : lV x = x / 16 % 4 := by
  have := getV_mod (l := 4) (n := 2) (by decide) x
  unfold lV
  rw [show ((2 : Nat) : Int) = 2 from rfl, show ((4 : Nat) : Int) = 4 from rfl] at this
  rw [this]
def okF (x : Nat) : Bool := decide (wordF (kV x) (lV x) = x)

set_option maxRecDepth 100000 in
set_option maxHeartbeats 4000000 in
theorem readF_any (x : Nat) (hx : x < 18446744073709551616) (k l : Int) (ok : Bool) (hcase : (okF x = true ∧ k = (kV x : Int) ∧ l = (lV x : Int) ∧ ok = true) ∨ (okF x = false ∧ k = 0 ∧ l = 0 ∧ ok = false)) (w : World) (hF : FF w) :
    Calls Tryd.prog 7 #[.int .u64 x] w fun e w' => e = .returned (.tuple #[.agg #[.int .i64 k, .int .i64 l], .bool ok]) ∧ Below w.heap.size w w' := by
  have cG1 : getV 0 4 x = kV x := rfl
  have cG2 : getV 4 2 x = lV x := rfl
  have cW := fun w1 h => fword_any (kV x : Int) (lV x : Int) w1 h
  have hk : kV x < 16 := by rw [kV_mod]; omega
  have hl : lV x < 4 := by rw [lV_mod]; omega
  have HCASE : Hid _ := hcase
  have HOK : Hid (okF x = decide (wordF (kV x) (lV x) = x)) := rfl
  clear hcase
  have hF0 := hF.alloc (.cells #[.int .i64 0, .int .i64 0] 23)
  have HF0 : Hid _ := hF0
  obtain ⟨f0, f1, f2, f3⟩ := hF0
  generalize kV x = k1 at *
  generalize lV x = l1 at *
  go_enter Tryd.func7, Tryd.ntmps7
  go_upto_region 1 with fail
  have hz0 : (w.alloc (.cells #[.int .i64 0, .int .i64 0] 23)).heap[w.heap.size]? = some (.cells #[.int .i64 0, .int .i64 0] 23 (0, 0)) := heap_alloc_new _ _
  have hB0 : Below w.heap.size w (w.alloc (.cells #[.int .i64 0, .int .i64 0] 23)) := below_new _ _
  generalize (w.alloc (.cells #[.int .i64 0, .int .i64 0] 23)) = W0 at *
  have HZ0 : Hid _ := hz0
  have HB0 : Hid _ := hB0
  clear hz0 hB0 hF
  have gk := World.block_lt_of_cell? _ _ f0
  have gl := World.block_lt_of_cell? _ _ f2
  have hwk : IntKind.i64.wrap (k1 : Int) = (k1 : Int) := by rw [IntKind.wrap_i64]; omega
  have hwl : IntKind.i64.wrap (l1 : Int) = (l1 : Int) := by rw [IntKind.wrap_i64]; omega
  go_cut [4] (fun t wc => ∃ K, t = .pointer (some ⟨K, 0, none⟩) ∧ Below W0.heap.size W0 wc ∧ W0.heap.size ≤ K ∧ wc.heap[K]? = some (.cells #[.int .i64 (k1 : Int), .int .i64 (l1 : Int)] 23 (0, 0)))
  case first =>
    clear cW
    go_region_held3 (fun w' => w'.cell? ⟨1, 0, none⟩ = some (.int .i64 0) ∧ w'.cell? ⟨1, 1, none⟩ = some (.int .i64 4) ∧ w'.cell? ⟨0, 0, none⟩ = some (.int .i64 4) ∧ w'.cell? ⟨0, 1, none⟩ = some (.int .i64 2) ∧ Below W0.heap.size W0 w')
      ((go_split_ands; refine ⟨?_, ?_, ?_, ?_, ?_⟩ <;> first | (with_reducible exact below2 hBw hge _ _) | (with_reducible exact hBw.alloc hBw.size _) | (with_reducible exact cell2 gk hge q0) | (with_reducible exact cell2 gk hge q1) | (with_reducible exact cell2 gl hge q2) | (with_reducible exact cell2 gl hge q3) | (with_reducible exact cell_alloc q0) | (with_reducible exact cell_alloc q1) | (with_reducible exact cell_alloc q2) | (with_reducible exact cell_alloc q3) | (with_reducible assumption) | (with_reducible exact cell_later hbm (by assumption)) | (with_reducible exact below_tr (by assumption) hbm) | (with_reducible exact (below_new _ _).drew) | (with_reducible exact (Below.refl _ _).drew) | (with_reducible exact Below.drew (by with_reducible assumption)) | (with_reducible exact cell_drew f0) | (with_reducible exact cell_drew (cell_alloc f0)) | (with_reducible exact cell_drew f1) | (with_reducible exact cell_drew (cell_alloc f1)) | (with_reducible exact cell_drew f2) | (with_reducible exact cell_drew (cell_alloc f2)) | (with_reducible exact cell_drew f3) | (with_reducible exact cell_drew (cell_alloc f3))))
      (first
        | (go_at_call 12; refine (get_any _ _ _ hx _).mono ?_; rintro e w' ⟨rfl, hbm⟩; (first | rw [cG1] | rw [cG2]); (first | (replace hK := block_later hbm hK; obtain ⟨⟨j0, j1⟩, jf⟩ := cells2 hK) | (have hK : w'.heap[W0.heap.size]? = some (.cells #[.int .i64 0, .int .i64 0] 23 (0, 0)) := (by rw [hbm.block _ (by simp), heap_drew]; exact heap_alloc_new _ _); have hge : W0.heap.size ≤ W0.heap.size := Nat.le_refl _; obtain ⟨⟨j0, j1⟩, jf⟩ := cells2 hK) | (have hge := Below.size hBw; have hK := block_later hbm (heap_alloc_new _ _); obtain ⟨⟨j0, j1⟩, jf⟩ := cells2 hK) | skip); have hBw : Below W0.heap.size W0 w' := below_tr (by go_split_ands; first | (with_reducible assumption) | assumption) hbm; have q0 := cell_later hbm (by go_split_ands; with_reducible assumption : World.cell? _ ⟨1, 0, none⟩ = some (.int .i64 0)); have q1 := cell_later hbm (by go_split_ands; with_reducible assumption : World.cell? _ ⟨1, 1, none⟩ = some (.int .i64 4)); have q2 := cell_later hbm (by go_split_ands; with_reducible assumption : World.cell? _ ⟨0, 0, none⟩ = some (.int .i64 4)); have q3 := cell_later hbm (by go_split_ands; with_reducible assumption : World.cell? _ ⟨0, 1, none⟩ = some (.int .i64 2))))
    all_goals
      go_wp2
      go_meet
      first
        | (with_reducible exact ⟨_, rfl, hBw.alloc hBw.size _, hBw.size, heap_alloc_new _ _⟩)
        | (with_reducible exact ⟨_, rfl, below2 hBw hge _ _, hge, row2 _ _ hK⟩)
  case rest =>
    obtain ⟨K, rfl, hBc, hKs, hKr⟩ := hcut
    have hFc := HF0.out.later hBc
    have hzc := block_later hBc HZ0.out
    have hBx : Below w.heap.size w wc := below_tr HB0.out hBc
    obtain ⟨⟨m0, m1⟩, -⟩ := cells2 hKr
    have hlow : w.heap.size < W0.heap.size := block_lt HZ0.out
    clear f0 f1 f2 f3 gk gl HF0 HZ0 HB0 hwk hwl hBc hKr
    go_wp2_with fail
    refine (cW _ hFc).mono ?_
    rintro e w2 ⟨rfl, hb2⟩
    replace m0 := cell_later hb2 m0
    replace m1 := cell_later hb2 m1
    have hz2 := block_later hb2 hzc
    have hB2 := below_tr hBx hb2
    have hKw : w.heap.size ≠ K := by omega
    have hKw2 : K ≠ w.heap.size := by omega
    have hsz : w.heap.size < w2.heap.size := block_lt hz2
    obtain ⟨⟨g0, g1⟩, gf⟩ := cells2 hz2
    have HZ2 : Hid _ := hz2
    clear hz2 hzc hb2 hBx hFc cW hKs
    generalize wordF (k1 : Int) (l1 : Int) = Y at *
    by_cases hY : Y = x
    · subst hY
      have hR : k = (k1 : Int) ∧ l = (l1 : Int) ∧ ok = true := by
        rcases HCASE.out with h | h
        · exact h.2
        · have := HOK.out; rw [h.1] at this; simp at this
      obtain ⟨rfl, rfl, rfl⟩ := hR
      clear HCASE HOK
      go_wp2
      refine bodyPost_ret (v := .tuple #[.agg #[.int .i64 (k1 : Int), .int .i64 (l1 : Int)], .bool true]) ?_ rfl ⟨rfl, below2 hB2 (Nat.le_refl _) _ _⟩
      exact results_row_tmp (p := 2) (u := 3) rfl _ _ w.heap.size 23 _ _ _ rfl (row2 _ _ HZ2.out) Tryd.underlying23 rfl (by kernel_rfl)
    · have hR : k = 0 ∧ l = 0 ∧ ok = false := by
        rcases HCASE.out with h | h
        · have := HOK.out; rw [h.1] at this; simp at this; exact absurd this hY
        · exact h.2
      obtain ⟨rfl, rfl, rfl⟩ := hR
      have hne : ((Y : Int) != (x : Int)) = true := by rw [bne_iff_ne]; omega
      clear HCASE HOK
      go_wp2
      refine bodyPost_ret (v := .tuple #[.agg #[.int .i64 0, .int .i64 0], .bool false]) ?_ rfl ⟨rfl, below2 hB2 (Nat.le_refl _) _ _⟩
      exact results_row_tmp (p := 2) (u := 3) rfl _ _ w.heap.size 23 _ _ _ rfl (row2 _ _ HZ2.out) Tryd.underlying23 rfl (by kernel_rfl)
end Go.Proofs.YtldbldblpmlfpaaDoor
