/- Slots: the slot of four words. -/
import Derived.Test.YtcmndefjmhcbhaaDoorSlotB
set_option linter.unusedVariables false
namespace Go.Proofs.YtcmndefjmhcbhaaDoor
open Go.RowKit

theorem info10 : (Tryd.prog.info? 61).map (·.size) = some 10 := by kernel_rfl
/-- The links that a third word has. -/
def slN (z : Nat) : Nat := z % 134217728 * 32
def slP (z : Nat) : Nat := z / 4294967296 % 134217728 * 32
/-- Are four words a slot? -/
def okS (x y z u : Nat) : Bool := rdOK x y && (lnkN (slN z) (slP z) == z && decide (u ≤ 4096))
def slA (E : Int) (q : Bool) (c : Array Value) : Array Value := if E = 0 ∧ q = true then c else #[.int .i64 0, .int .u64 0, .int .i64 0, .int .i64 0, .int .i64 0, .int .i64 0, .int .u64 0, .int .u64 0, .int .u64 0, .int .i64 0]
def slC (E : Int) (q : Bool) : Int := if E = 0 ∧ q = true then 0 else 10

set_option maxRecDepth 100000 in
set_option maxHeartbeats 4000000 in
theorem slot_no (x y z u : Nat) (hx : x < 18446744073709551616) (hy : y < 18446744073709551616) (h : rdOK x y = false) (w : World) (hP : SPrts w) :
    Calls Tryd.prog 60 #[.agg #[.int .u64 (x : Nat), .int .u64 (y : Nat), .int .u64 (z : Nat), .int .u64 (u : Nat)]] w fun e w' => e = .returned (.tuple #[.agg #[.int .i64 0, .int .u64 0, .int .i64 0, .int .i64 0, .int .i64 0, .int .i64 0, .int .u64 0, .int .u64 0, .int .u64 0, .int .i64 0], .int .i64 10]) ∧ Below w.heap.size w w' := by
  have cR := fun w1 h1 => read_any x y hx hy w1 h1
  rw [h, if_neg (by decide), if_neg (by decide)] at cR
  go_enter Tryd.func60, Tryd.ntmps60
  go_wp2_with fail
  have gC := heap2_0 w (.cells #[.int .u64 (x : Nat), .int .u64 (y : Nat), .int .u64 (z : Nat), .int .u64 (u : Nat)] 97) (.cells #[.int .i64 0, .int .u64 0, .int .i64 0, .int .i64 0, .int .i64 0, .int .i64 0, .int .u64 0, .int .u64 0, .int .u64 0, .int .i64 0] 61)
  have gR := heap_alloc_new (w.alloc (.cells #[.int .u64 (x : Nat), .int .u64 (y : Nat), .int .u64 (z : Nat), .int .u64 (u : Nat)] 97)) (.cells #[.int .i64 0, .int .u64 0, .int .i64 0, .int .i64 0, .int .i64 0, .int .i64 0, .int .u64 0, .int .u64 0, .int .u64 0, .int .i64 0] 61)
  have hB := below2 w (.cells #[.int .u64 (x : Nat), .int .u64 (y : Nat), .int .u64 (z : Nat), .int .u64 (u : Nat)] 97) (.cells #[.int .i64 0, .int .u64 0, .int .i64 0, .int .i64 0, .int .i64 0, .int .i64 0, .int .u64 0, .int .u64 0, .int .u64 0, .int .i64 0] 61)
  rw [World.size_alloc] at gR
  generalize (w.alloc (.cells #[.int .u64 (x : Nat), .int .u64 (y : Nat), .int .u64 (z : Nat), .int .u64 (u : Nat)] 97)).alloc (.cells #[.int .i64 0, .int .u64 0, .int .i64 0, .int .i64 0, .int .i64 0, .int .i64 0, .int .u64 0, .int .u64 0, .int .u64 0, .int .i64 0] 61) = W0 at *
  have hRB := Nat.le_succ w.heap.size
  obtain ⟨c0, c1, c2, c3⟩ := cells4 gC
  have cp0 := fun o => cell_alloc (o := o) c0
  have cp1 := fun o => cell_alloc (o := o) c1
  have cp2 := fun o => cell_alloc (o := o) c2
  have cp3 := fun o => cell_alloc (o := o) c3
  refine (cR _ (hP.later hB).pp).mono ?_
  clear c0 cp0 c1 cp1 c2 cp2 c3 cp3
  rintro e w1 ⟨rfl, hb⟩
  replace gC := block_later hb gC
  replace gR := block_later hb gR
  replace hB := below_tr hB hb
  clear hb
  obtain ⟨c0, c1, c2, c3⟩ := cells4 gC
  have cp0 := fun o => cell_alloc (o := o) c0
  have cp1 := fun o => cell_alloc (o := o) c1
  have cp2 := fun o => cell_alloc (o := o) c2
  have cp3 := fun o => cell_alloc (o := o) c3
  go_upto_region 3 with fail
  clear c0 cp0 c1 cp1 c2 cp2 c3 cp3
  have gX := heap_alloc_new w1 (.cells #[.int .i64 0, .int .u64 0, .int .i64 0, .int .i64 0, .int .i64 0, .int .i64 0, .int .u64 0] 33)
  replace gC := block_later (below_new _ (.cells #[.int .i64 0, .int .u64 0, .int .i64 0, .int .i64 0, .int .i64 0, .int .i64 0, .int .u64 0] 33)) gC
  replace gR := block_later (below_new _ (.cells #[.int .i64 0, .int .u64 0, .int .i64 0, .int .i64 0, .int .i64 0, .int .i64 0, .int .u64 0] 33)) gR
  replace hB := below_tr hB (below_new _ (.cells #[.int .i64 0, .int .u64 0, .int .i64 0, .int .i64 0, .int .i64 0, .int .i64 0, .int .u64 0] 33))
  generalize w1.heap.size = X at *
  generalize w1.alloc (.cells #[.int .i64 0, .int .u64 0, .int .i64 0, .int .i64 0, .int .i64 0, .int .i64 0, .int .u64 0] 33) = w1a at *
  obtain ⟨c0, c1, c2, c3⟩ := cells4 gC
  have cp0 := fun o => cell_alloc (o := o) c0
  have cp1 := fun o => cell_alloc (o := o) c1
  have cp2 := fun o => cell_alloc (o := o) c2
  have cp3 := fun o => cell_alloc (o := o) c3
  go_wp2_with (first
    | (refine wpList_store_segTo rfl 61 _ _ rfl rfl (w.heap.size + 1) 0 _ #[.int .i64 0, .int .u64 0, .int .i64 0, .int .i64 0, .int .i64 0, .int .i64 0, .int .u64 0, .int .u64 0, .int .u64 0, .int .i64 0] rfl rfl rfl 61 _ gR (show 0 + 10 ≤ 10 by decide) info10 (by simp [Value.oneCell']) #[.int .i64 0, .int .u64 0, .int .i64 0, .int .i64 0, .int .i64 0, .int .i64 0, .int .u64 0, .int .u64 0, .int .u64 0, .int .i64 0] rfl ?_; intro wq hrq htq)
    | fail)
  refine bodyPost_ret (res_row_tmp rfl _ wq (w.heap.size + 1) 61 #[.int .i64 0, .int .u64 0, .int .i64 0, .int .i64 0, .int .i64 0, .int .i64 0, .int .u64 0, .int .u64 0, .int .u64 0, .int .i64 0] (0, 0) _ rfl hrq Tryd.underlying61 rfl info10) rfl ?_
  exact ⟨rfl, below_turn hB htq hRB⟩

set_option maxRecDepth 100000 in
set_option maxHeartbeats 8000000 in
theorem slot_mk (x y z u nK nA nB nR nG nS nN nP N M L V : Nat) (D E : Int) (hx : x < 18446744073709551616) (hy : y < 18446744073709551616) (hz : z < 18446744073709551616) (hok : rdOK x y = true) (hK : rdK x = nK) (hA : rdA x = nA) (hB' : rdB x = nB) (hR : rdR x = nR) (hG : rdG x = nG) (hS : rdS x = nS)
    (hN : slN z = nN) (hP' : slP z = nP) (hD : IntKind.i64.wrap (u : Int) = D) (w : World) (hP : SPrts w)
    (hW : ∀ w1, SPrts w1 → Calls Tryd.prog 61 #[.agg #[.int .i64 (nK : Nat), .int .u64 (nA : Nat), .int .i64 (nB : Nat), .int .i64 (nR : Nat), .int .i64 (nG : Nat), .int .i64 (nS : Nat), .int .u64 (y : Nat), .int .u64 (nN : Nat), .int .u64 (nP : Nat), .int .i64 D]] w1 fun e w' => e = .returned (.tuple #[.agg #[.int .u64 (N : Nat), .int .u64 (M : Nat), .int .u64 (L : Nat), .int .u64 (V : Nat)], .int .i64 E]) ∧ Below w1.heap.size w1 w') :
    Calls Tryd.prog 60 #[.agg #[.int .u64 (x : Nat), .int .u64 (y : Nat), .int .u64 (z : Nat), .int .u64 (u : Nat)]] w fun e w' => e = .returned (.tuple #[.agg (slA E (eqWB N M L V x y z u) #[.int .i64 (nK : Nat), .int .u64 (nA : Nat), .int .i64 (nB : Nat), .int .i64 (nR : Nat), .int .i64 (nG : Nat), .int .i64 (nS : Nat), .int .u64 (y : Nat), .int .u64 (nN : Nat), .int .u64 (nP : Nat), .int .i64 D]), .int .i64 (slC E (eqWB N M L V x y z u))]) ∧ Below w.heap.size w w' := by
  have cR := fun w1 h1 => read_any x y hx hy w1 h1
  rw [hok, if_pos rfl, if_pos rfl, hK, hA, hB', hR, hG, hS] at cR
  have cQ1 := fun w1 => get_any 0 27 z hz w1
  have cQ2 := fun w1 => get_any 32 27 z hz w1
  have g1 : getV 0 27 z = z % 134217728 := by
    have := getV_mod (l := 0) (n := 27) (by decide) z
    simpa using this
  have g2 : getV 32 27 z = z / 4294967296 % 134217728 := by
    have := getV_mod (l := 32) (n := 27) (by decide) z
    simpa using this
  rw [g1] at cQ1
  rw [g2] at cQ2
  have b1 : z % 134217728 < 134217728 := Nat.mod_lt _ (by decide)
  have b2 : z / 4294967296 % 134217728 < 134217728 := Nat.mod_lt _ (by decide)
  unfold slN at hN
  unfold slP at hP'
  generalize z % 134217728 = Z1 at *
  generalize z / 4294967296 % 134217728 = Z2 at *
  have e1 : IntKind.u64.wrap ((Z1 : Int) * 32) = (nN : Int) := by rw [IntKind.wrap_u64]; omega
  have e2 : IntKind.u64.wrap ((Z2 : Int) * 32) = (nP : Int) := by rw [IntKind.wrap_u64]; omega
  have f1 : IntKind.u64.wrap ((Z1 : Int) * 2 ^ 5) = (nN : Int) := by rw [IntKind.wrap_u64]; omega
  have f2 : IntKind.u64.wrap ((Z2 : Int) * 2 ^ 5) = (nP : Int) := by rw [IntKind.wrap_u64]; omega
  have HQ := fun w1 => neW N M L V x y z u w1
  have h5 : 0 < w.heap.size ∧ 1 < w.heap.size := ⟨World.block_lt_of_cell? w _ hP.n0, World.block_lt_of_cell? w _ hP.p0⟩
  generalize eqWB N M L V x y z u = q at *
  clear hx hy hz hok hK hA hB' hR hG hS hN hP' b1 b2 g1 g2
  go_enter Tryd.func60, Tryd.ntmps60
  go_wp2_with fail
  have gC := heap2_0 w (.cells #[.int .u64 (x : Nat), .int .u64 (y : Nat), .int .u64 (z : Nat), .int .u64 (u : Nat)] 97) (.cells #[.int .i64 0, .int .u64 0, .int .i64 0, .int .i64 0, .int .i64 0, .int .i64 0, .int .u64 0, .int .u64 0, .int .u64 0, .int .i64 0] 61)
  have gR := heap_alloc_new (w.alloc (.cells #[.int .u64 (x : Nat), .int .u64 (y : Nat), .int .u64 (z : Nat), .int .u64 (u : Nat)] 97)) (.cells #[.int .i64 0, .int .u64 0, .int .i64 0, .int .i64 0, .int .i64 0, .int .i64 0, .int .u64 0, .int .u64 0, .int .u64 0, .int .i64 0] 61)
  have hB := below2 w (.cells #[.int .u64 (x : Nat), .int .u64 (y : Nat), .int .u64 (z : Nat), .int .u64 (u : Nat)] 97) (.cells #[.int .i64 0, .int .u64 0, .int .i64 0, .int .i64 0, .int .i64 0, .int .i64 0, .int .u64 0, .int .u64 0, .int .u64 0, .int .i64 0] 61)
  rw [World.size_alloc] at gR
  generalize (w.alloc (.cells #[.int .u64 (x : Nat), .int .u64 (y : Nat), .int .u64 (z : Nat), .int .u64 (u : Nat)] 97)).alloc (.cells #[.int .i64 0, .int .u64 0, .int .i64 0, .int .i64 0, .int .i64 0, .int .i64 0, .int .u64 0, .int .u64 0, .int .u64 0, .int .i64 0] 61) = W0 at *
  have hRB := Nat.le_succ w.heap.size
  obtain ⟨c0, c1, c2, c3⟩ := cells4 gC
  have cp0 := fun o => cell_alloc (o := o) c0
  have cp1 := fun o => cell_alloc (o := o) c1
  have cp2 := fun o => cell_alloc (o := o) c2
  have cp3 := fun o => cell_alloc (o := o) c3
  refine (cR _ (hP.later hB).pp).mono ?_
  clear c0 cp0 c1 cp1 c2 cp2 c3 cp3
  rintro e w1 ⟨rfl, hb⟩
  replace gC := block_later hb gC
  replace gR := block_later hb gR
  replace hB := below_tr hB hb
  clear hb
  obtain ⟨c0, c1, c2, c3⟩ := cells4 gC
  have cp0 := fun o => cell_alloc (o := o) c0
  have cp1 := fun o => cell_alloc (o := o) c1
  have cp2 := fun o => cell_alloc (o := o) c2
  have cp3 := fun o => cell_alloc (o := o) c3
  go_upto_region 4 with fail
  clear c0 cp0 c1 cp1 c2 cp2 c3 cp3
  have gX := heap_alloc_new w1 (.cells #[.int .i64 (nK : Nat), .int .u64 (nA : Nat), .int .i64 (nB : Nat), .int .i64 (nR : Nat), .int .i64 (nG : Nat), .int .i64 (nS : Nat), .int .u64 (y : Nat)] 33)
  replace gC := block_later (below_new _ (.cells #[.int .i64 (nK : Nat), .int .u64 (nA : Nat), .int .i64 (nB : Nat), .int .i64 (nR : Nat), .int .i64 (nG : Nat), .int .i64 (nS : Nat), .int .u64 (y : Nat)] 33)) gC
  replace gR := block_later (below_new _ (.cells #[.int .i64 (nK : Nat), .int .u64 (nA : Nat), .int .i64 (nB : Nat), .int .i64 (nR : Nat), .int .i64 (nG : Nat), .int .i64 (nS : Nat), .int .u64 (y : Nat)] 33)) gR
  replace hB := below_tr hB (below_new _ (.cells #[.int .i64 (nK : Nat), .int .u64 (nA : Nat), .int .i64 (nB : Nat), .int .i64 (nR : Nat), .int .i64 (nG : Nat), .int .i64 (nS : Nat), .int .u64 (y : Nat)] 33))
  generalize w1.heap.size = X at *
  generalize w1.alloc (.cells #[.int .i64 (nK : Nat), .int .u64 (nA : Nat), .int .i64 (nB : Nat), .int .i64 (nR : Nat), .int .i64 (nG : Nat), .int .i64 (nS : Nat), .int .u64 (y : Nat)] 33) = w1a at *
  obtain ⟨c0, c1, c2, c3⟩ := cells4 gC
  have cp0 := fun o => cell_alloc (o := o) c0
  have cp1 := fun o => cell_alloc (o := o) c1
  have cp2 := fun o => cell_alloc (o := o) c2
  have cp3 := fun o => cell_alloc (o := o) c3
  clear c0 cp0 c1 cp1 c2 cp2 c3 cp3
  have hP1 := hP.later hB
  generalize w1a = WD at *
  obtain ⟨k0, k1, k2, k3, k4, k5, k6⟩ := cells7 gX
  obtain ⟨-, -, k7, k8⟩ := cells4 gC
  have k9 := hP1.n0
  have k10 := hP1.n1
  have k11 := hP1.p0
  have k12 := hP1.p1
  go_cut [6] (fun t wc => ∃ gn, t = .pointer (some ⟨gn, 0, none⟩) ∧ w.heap.size + 1 < gn ∧ Below w.heap.size w wc ∧ wc.heap[w.heap.size]? = some (.cells #[.int .u64 (x : Nat), .int .u64 (y : Nat), .int .u64 (z : Nat), .int .u64 (u : Nat)] 97 (0, 0)) ∧ wc.heap[w.heap.size + 1]? = some (.cells #[.int .i64 0, .int .u64 0, .int .i64 0, .int .i64 0, .int .i64 0, .int .i64 0, .int .u64 0, .int .u64 0, .int .u64 0, .int .i64 0] 61 (0, 0)) ∧ wc.heap[gn]? = some (.cells #[.int .i64 (nK : Nat), .int .u64 (nA : Nat), .int .i64 (nB : Nat), .int .i64 (nR : Nat), .int .i64 (nG : Nat), .int .i64 (nS : Nat), .int .u64 (y : Nat), .int .u64 (nN : Nat), .int .u64 (nP : Nat), .int .i64 D] 61 (0, 0)))
  case first =>
    refine wp_region_noPanic ?_
    refine wp_region_held_drew (S := (fun w' => w'.cell? ⟨X, 0, none⟩ = some (.int .i64 (nK : Nat)) ∧ w'.cell? ⟨X, 1, none⟩ = some (.int .u64 (nA : Nat)) ∧ w'.cell? ⟨X, 2, none⟩ = some (.int .i64 (nB : Nat)) ∧ w'.cell? ⟨X, 3, none⟩ = some (.int .i64 (nR : Nat)) ∧ w'.cell? ⟨X, 4, none⟩ = some (.int .i64 (nG : Nat)) ∧ w'.cell? ⟨X, 5, none⟩ = some (.int .i64 (nS : Nat)) ∧ w'.cell? ⟨X, 6, none⟩ = some (.int .u64 (y : Nat)) ∧ w'.cell? ⟨w.heap.size, 2, none⟩ = some (.int .u64 (z : Nat)) ∧ w'.cell? ⟨w.heap.size, 3, none⟩ = some (.int .u64 (u : Nat)) ∧ w'.cell? ⟨0, 0, none⟩ = some (.int .i64 0) ∧ w'.cell? ⟨0, 1, none⟩ = some (.int .i64 27) ∧ w'.cell? ⟨1, 0, none⟩ = some (.int .i64 32) ∧ w'.cell? ⟨1, 1, none⟩ = some (.int .i64 27))) (by kernel_rfl) ?_ (fun hHeld => ?_)
    · exact ⟨cell_later (Below.refl _ _).drew k0, cell_later (Below.refl _ _).drew k1, cell_later (Below.refl _ _).drew k2, cell_later (Below.refl _ _).drew k3, cell_later (Below.refl _ _).drew k4, cell_later (Below.refl _ _).drew k5, cell_later (Below.refl _ _).drew k6, cell_later (Below.refl _ _).drew k7, cell_later (Below.refl _ _).drew k8, cell_later (Below.refl _ _).drew k9, cell_later (Below.refl _ _).drew k10, cell_later (Below.refl _ _).drew k11, cell_later (Below.refl _ _).drew k12⟩
    replace k0 := cell_later (Below.refl _ WD).drew k0
    replace k1 := cell_later (Below.refl _ WD).drew k1
    replace k2 := cell_later (Below.refl _ WD).drew k2
    replace k3 := cell_later (Below.refl _ WD).drew k3
    replace k4 := cell_later (Below.refl _ WD).drew k4
    replace k5 := cell_later (Below.refl _ WD).drew k5
    replace k6 := cell_later (Below.refl _ WD).drew k6
    replace k7 := cell_later (Below.refl _ WD).drew k7
    replace k8 := cell_later (Below.refl _ WD).drew k8
    replace k9 := cell_later (Below.refl _ WD).drew k9
    replace k10 := cell_later (Below.refl _ WD).drew k10
    replace k11 := cell_later (Below.refl _ WD).drew k11
    replace k12 := cell_later (Below.refl _ WD).drew k12
    replace gC := block_later (Below.refl _ WD).drew gC
    replace gR := block_later (Below.refl _ WD).drew gR
    replace gX := block_later (Below.refl _ WD).drew gX
    replace hB := below_tr hB (Below.refl _ WD).drew
    generalize WD.drew = Wd at *
    refine take_at (i := 0) (v := ?_) 20 rfl rfl (by kernel_rfl) (by kernel_rfl) (by kernel_rfl) (fun _ _ _ h => h) (Or.inl ⟨by rfl, ?_⟩) (by assumption) ?_
    rotate_left
    · (intro w' hSw; (try dsimp only at hSw); go_simp; all_goals with_reducible rfl)
    try simp only [Act.put, List.setIfInBounds_toArray, List.set_cons_zero, List.set_cons_succ]
    refine take_at (i := 1) (v := ?_) 21 rfl rfl (by kernel_rfl) (by kernel_rfl) (by kernel_rfl) (fun _ _ _ h => h) (Or.inl ⟨by rfl, ?_⟩) (by assumption) ?_
    rotate_left
    · (intro w' hSw; (try dsimp only at hSw); go_simp; all_goals with_reducible rfl)
    try simp only [Act.put, List.setIfInBounds_toArray, List.set_cons_zero, List.set_cons_succ]
    refine take_at (i := 2) (v := ?_) 22 rfl rfl (by kernel_rfl) (by kernel_rfl) (by kernel_rfl) (fun _ _ _ h => h) (Or.inl ⟨by rfl, ?_⟩) (by assumption) ?_
    rotate_left
    · (intro w' hSw; (try dsimp only at hSw); go_simp; all_goals with_reducible rfl)
    try simp only [Act.put, List.setIfInBounds_toArray, List.set_cons_zero, List.set_cons_succ]
    refine take_at (i := 3) (v := ?_) 23 rfl rfl (by kernel_rfl) (by kernel_rfl) (by kernel_rfl) (fun _ _ _ h => h) (Or.inl ⟨by rfl, ?_⟩) (by assumption) ?_
    rotate_left
    · (intro w' hSw; (try dsimp only at hSw); go_simp; all_goals with_reducible rfl)
    try simp only [Act.put, List.setIfInBounds_toArray, List.set_cons_zero, List.set_cons_succ]
    refine take_at (i := 6) (v := ?_) 26 rfl rfl (by kernel_rfl) (by kernel_rfl) (by kernel_rfl) (fun _ _ _ h => h) (Or.inl ⟨by rfl, ?_⟩) (by assumption) ?_
    rotate_left
    · (intro w' hSw; (try dsimp only at hSw); go_simp; all_goals with_reducible rfl)
    try simp only [Act.put, List.setIfInBounds_toArray, List.set_cons_zero, List.set_cons_succ]
    refine take_at (i := 7) (v := ?_) 27 rfl rfl (by kernel_rfl) (by kernel_rfl) (by kernel_rfl) (fun _ _ _ h => h) (Or.inl ⟨by rfl, ?_⟩) (by assumption) ?_
    rotate_left
    · (intro w' hSw; (try dsimp only at hSw); go_simp; all_goals with_reducible rfl)
    try simp only [Act.put, List.setIfInBounds_toArray, List.set_cons_zero, List.set_cons_succ]
    refine take_at (i := 8) (v := ?_) 28 rfl rfl (by kernel_rfl) (by kernel_rfl) (by kernel_rfl) (fun _ _ _ h => h) (Or.inl ⟨by rfl, ?_⟩) (by assumption) ?_
    rotate_left
    · (intro w' hSw; (try dsimp only at hSw); go_simp; all_goals with_reducible rfl)
    try simp only [Act.put, List.setIfInBounds_toArray, List.set_cons_zero, List.set_cons_succ]
    refine take_at (i := 11) (v := ?_) 31 rfl rfl (by kernel_rfl) (by kernel_rfl) (by kernel_rfl) (fun _ _ _ h => h) (Or.inl ⟨by rfl, ?_⟩) (by assumption) ?_
    rotate_left
    · (intro w' hSw; (try dsimp only at hSw); go_simp; all_goals with_reducible rfl)
    try simp only [Act.put, List.setIfInBounds_toArray, List.set_cons_zero, List.set_cons_succ]
    refine take_at (i := 12) (v := ?_) 32 rfl rfl (by kernel_rfl) (by kernel_rfl) (by kernel_rfl) (fun _ _ _ h => h) (Or.inl ⟨by rfl, ?_⟩) (by assumption) ?_
    rotate_left
    · (intro w' hSw; (try dsimp only at hSw); go_simp; all_goals with_reducible rfl)
    try simp only [Act.put, List.setIfInBounds_toArray, List.set_cons_zero, List.set_cons_succ]
    refine take_at (i := 13) (v := ?_) 33 rfl rfl (by kernel_rfl) (by kernel_rfl) (by kernel_rfl) (fun _ _ _ h => h) (Or.inl ⟨by rfl, ?_⟩) (by assumption) ?_
    rotate_left
    · (intro w' hSw; (try dsimp only at hSw); go_simp; all_goals with_reducible rfl)
    try simp only [Act.put, List.setIfInBounds_toArray, List.set_cons_zero, List.set_cons_succ]
    refine wpAnyH_ready (rs := [4, 15]) (by kernel_rfl) (by simp) ?_
    refine AllReadyH.cons rfl (fun K hK => ?_) (AllReadyH.cons rfl (fun K hK => ?_) AllReadyH.nil)
    · go_simp
      refine (cQ1 _).mono ?_
      rintro e v1 ⟨rfl, hb⟩
      go_wp2_with fail
      replace k0 := cell_later hb k0
      replace k1 := cell_later hb k1
      replace k2 := cell_later hb k2
      replace k3 := cell_later hb k3
      replace k4 := cell_later hb k4
      replace k5 := cell_later hb k5
      replace k6 := cell_later hb k6
      replace k7 := cell_later hb k7
      replace k8 := cell_later hb k8
      replace k9 := cell_later hb k9
      replace k10 := cell_later hb k10
      replace k11 := cell_later hb k11
      replace k12 := cell_later hb k12
      replace gC := block_later hb gC
      replace gR := block_later hb gR
      replace gX := block_later hb gX
      replace hB := below_tr hB hb
      clear hb
      refine hK.out _ _ ⟨k0, k1, k2, k3, k4, k5, k6, k7, k8, k9, k10, k11, k12⟩ (fun hHeldc1 => ?_)
      clear hK
      try simp only [Act.put, List.setIfInBounds_toArray, List.set_cons_zero, List.set_cons_succ]
      refine take_at (i := 5) (v := ?_) 25 rfl rfl (by kernel_rfl) (by kernel_rfl) (by kernel_rfl) (fun _ _ _ h => h) (Or.inl ⟨by rfl, ?_⟩) (by assumption) ?_
      rotate_left
      · (intro w' hSw; (try dsimp only at hSw); go_simp; all_goals with_reducible rfl)
      try simp only [Act.put, List.setIfInBounds_toArray, List.set_cons_zero, List.set_cons_succ]
      refine wpAnyH_ready (rs := [9, 15]) (by kernel_rfl) (by simp) ?_
      refine AllReadyH.cons rfl (fun K hK => ?_) (AllReadyH.cons rfl (fun K hK => ?_) AllReadyH.nil)
      · go_simp
        refine (cQ2 _).mono ?_
        rintro e v2 ⟨rfl, hb⟩
        go_wp2_with fail
        replace k0 := cell_later hb k0
        replace k1 := cell_later hb k1
        replace k2 := cell_later hb k2
        replace k3 := cell_later hb k3
        replace k4 := cell_later hb k4
        replace k5 := cell_later hb k5
        replace k6 := cell_later hb k6
        replace k7 := cell_later hb k7
        replace k8 := cell_later hb k8
        replace k9 := cell_later hb k9
        replace k10 := cell_later hb k10
        replace k11 := cell_later hb k11
        replace k12 := cell_later hb k12
        replace gC := block_later hb gC
        replace gR := block_later hb gR
        replace gX := block_later hb gX
        replace hB := below_tr hB hb
        clear hb
        refine hK.out _ _ ⟨k0, k1, k2, k3, k4, k5, k6, k7, k8, k9, k10, k11, k12⟩ (fun hHeldc2 => ?_)
        clear hK
        try simp only [Act.put, List.setIfInBounds_toArray, List.set_cons_zero, List.set_cons_succ]
        refine take_at (i := 10) (v := ?_) 30 rfl rfl (by kernel_rfl) (by kernel_rfl) (by kernel_rfl) (fun _ _ _ h => h) (Or.inl ⟨by rfl, ?_⟩) (by assumption) ?_
        rotate_left
        · (intro w' hSw; (try dsimp only at hSw); go_simp; all_goals with_reducible rfl)
        try simp only [Act.put, List.setIfInBounds_toArray, List.set_cons_zero, List.set_cons_succ]
        refine take_at (i := 14) (v := ?_) 34 rfl rfl (by kernel_rfl) (by kernel_rfl) (by kernel_rfl) (fun _ _ _ h => h) (Or.inl ⟨by rfl, ?_⟩) (by assumption) ?_
        rotate_left
        · (intro w' hSw; (try dsimp only at hSw); go_simp; all_goals with_reducible rfl)
        try simp only [Act.put, List.setIfInBounds_toArray, List.set_cons_zero, List.set_cons_succ]
        refine wpAnyH_ready (rs := [15]) (by kernel_rfl) (by simp) ?_
        refine AllReadyH.cons rfl (fun K hK => ?_) AllReadyH.nil
        go_simp
        have gN := heap_alloc_new v2 (.cells #[.int .i64 0, .int .u64 0, .int .i64 0, .int .i64 0, .int .i64 0, .int .i64 0, .int .u64 0, .int .u64 0, .int .u64 0, .int .i64 0] 61)
        have hgn : w.heap.size + 1 < v2.heap.size := block_lt gR
        have hgx : X < v2.heap.size := block_lt gX
        replace k0 := cell_alloc (o := .cells #[.int .i64 0, .int .u64 0, .int .i64 0, .int .i64 0, .int .i64 0, .int .i64 0, .int .u64 0, .int .u64 0, .int .u64 0, .int .i64 0] 61) k0
        replace k1 := cell_alloc (o := .cells #[.int .i64 0, .int .u64 0, .int .i64 0, .int .i64 0, .int .i64 0, .int .i64 0, .int .u64 0, .int .u64 0, .int .u64 0, .int .i64 0] 61) k1
        replace k2 := cell_alloc (o := .cells #[.int .i64 0, .int .u64 0, .int .i64 0, .int .i64 0, .int .i64 0, .int .i64 0, .int .u64 0, .int .u64 0, .int .u64 0, .int .i64 0] 61) k2
        replace k3 := cell_alloc (o := .cells #[.int .i64 0, .int .u64 0, .int .i64 0, .int .i64 0, .int .i64 0, .int .i64 0, .int .u64 0, .int .u64 0, .int .u64 0, .int .i64 0] 61) k3
        replace k4 := cell_alloc (o := .cells #[.int .i64 0, .int .u64 0, .int .i64 0, .int .i64 0, .int .i64 0, .int .i64 0, .int .u64 0, .int .u64 0, .int .u64 0, .int .i64 0] 61) k4
        replace k5 := cell_alloc (o := .cells #[.int .i64 0, .int .u64 0, .int .i64 0, .int .i64 0, .int .i64 0, .int .i64 0, .int .u64 0, .int .u64 0, .int .u64 0, .int .i64 0] 61) k5
        replace k6 := cell_alloc (o := .cells #[.int .i64 0, .int .u64 0, .int .i64 0, .int .i64 0, .int .i64 0, .int .i64 0, .int .u64 0, .int .u64 0, .int .u64 0, .int .i64 0] 61) k6
        replace k7 := cell_alloc (o := .cells #[.int .i64 0, .int .u64 0, .int .i64 0, .int .i64 0, .int .i64 0, .int .i64 0, .int .u64 0, .int .u64 0, .int .u64 0, .int .i64 0] 61) k7
        replace k8 := cell_alloc (o := .cells #[.int .i64 0, .int .u64 0, .int .i64 0, .int .i64 0, .int .i64 0, .int .i64 0, .int .u64 0, .int .u64 0, .int .u64 0, .int .i64 0] 61) k8
        replace k9 := cell_alloc (o := .cells #[.int .i64 0, .int .u64 0, .int .i64 0, .int .i64 0, .int .i64 0, .int .i64 0, .int .u64 0, .int .u64 0, .int .u64 0, .int .i64 0] 61) k9
        replace k10 := cell_alloc (o := .cells #[.int .i64 0, .int .u64 0, .int .i64 0, .int .i64 0, .int .i64 0, .int .i64 0, .int .u64 0, .int .u64 0, .int .u64 0, .int .i64 0] 61) k10
        replace k11 := cell_alloc (o := .cells #[.int .i64 0, .int .u64 0, .int .i64 0, .int .i64 0, .int .i64 0, .int .i64 0, .int .u64 0, .int .u64 0, .int .u64 0, .int .i64 0] 61) k11
        replace k12 := cell_alloc (o := .cells #[.int .i64 0, .int .u64 0, .int .i64 0, .int .i64 0, .int .i64 0, .int .i64 0, .int .u64 0, .int .u64 0, .int .u64 0, .int .i64 0] 61) k12
        replace gC := block_later (below_new _ (.cells #[.int .i64 0, .int .u64 0, .int .i64 0, .int .i64 0, .int .i64 0, .int .i64 0, .int .u64 0, .int .u64 0, .int .u64 0, .int .i64 0] 61)) gC
        replace gR := block_later (below_new _ (.cells #[.int .i64 0, .int .u64 0, .int .i64 0, .int .i64 0, .int .i64 0, .int .i64 0, .int .u64 0, .int .u64 0, .int .u64 0, .int .i64 0] 61)) gR
        replace gX := block_later (below_new _ (.cells #[.int .i64 0, .int .u64 0, .int .i64 0, .int .i64 0, .int .i64 0, .int .i64 0, .int .u64 0, .int .u64 0, .int .u64 0, .int .i64 0] 61)) gX
        replace hB := below_tr hB (below_new _ (.cells #[.int .i64 0, .int .u64 0, .int .i64 0, .int .i64 0, .int .i64 0, .int .i64 0, .int .u64 0, .int .u64 0, .int .u64 0, .int .i64 0] 61))
        generalize v2.heap.size = gn at *
        generalize v2.alloc (.cells #[.int .i64 0, .int .u64 0, .int .i64 0, .int .i64 0, .int .i64 0, .int .i64 0, .int .u64 0, .int .u64 0, .int .u64 0, .int .i64 0] 61) = va at *
        refine hK.out _ _ ⟨k0, k1, k2, k3, k4, k5, k6, k7, k8, k9, k10, k11, k12⟩ (fun hHelda => ?_)
        clear hK
        try simp only [Act.put, List.setIfInBounds_toArray, List.set_cons_zero, List.set_cons_succ]
        refine wpAnyH_ready (rs := [16]) (by kernel_rfl) (by simp) ?_
        refine AllReadyH.cons rfl (fun K hK => ?_) AllReadyH.nil
        refine step_store_seg rfl rfl 61 _ _ rfl (gn) 0 _ #[.int .i64 (nK : Nat), .int .u64 (nA : Nat), .int .i64 (nB : Nat), .int .i64 (nR : Nat), .int .i64 (nG : Nat), .int .i64 (nS : Nat), .int .u64 (y : Nat), .int .u64 (nN : Nat), .int .u64 (nP : Nat), .int .i64 D] rfl rfl rfl 61 _ gN (show 0 + 10 ≤ 10 by decide) info10 (by simp [Value.oneCell']) #[.int .i64 (nK : Nat), .int .u64 (nA : Nat), .int .i64 (nB : Nat), .int .i64 (nR : Nat), .int .i64 (nG : Nat), .int .i64 (nS : Nat), .int .u64 (y : Nat), .int .u64 (nN : Nat), .int .u64 (nP : Nat), .int .i64 D] rfl ?_
        intro wsz hrq htq
        replace k0 := turn_cell htq (by omega) k0
        replace k1 := turn_cell htq (by omega) k1
        replace k2 := turn_cell htq (by omega) k2
        replace k3 := turn_cell htq (by omega) k3
        replace k4 := turn_cell htq (by omega) k4
        replace k5 := turn_cell htq (by omega) k5
        replace k6 := turn_cell htq (by omega) k6
        replace k7 := turn_cell htq (by omega) k7
        replace k8 := turn_cell htq (by omega) k8
        replace k9 := turn_cell htq (by omega) k9
        replace k10 := turn_cell htq (by omega) k10
        replace k11 := turn_cell htq (by omega) k11
        replace k12 := turn_cell htq (by omega) k12
        replace gC := block_turn htq gC (by omega)
        replace gR := block_turn htq gR (by omega)
        replace gN := hrq
        replace hB := below_turn hB htq (by omega)
        refine hK.out _ _ ⟨k0, k1, k2, k3, k4, k5, k6, k7, k8, k9, k10, k11, k12⟩ (fun hHeldsz => ?_)
        clear hK hrq
        try simp only [Act.put, List.setIfInBounds_toArray, List.set_cons_zero, List.set_cons_succ]
        refine wpAnyH_done (by kernel_rfl) ?_ _
        refine NoPanic.normal ?_
        go_wp2_with fail
        go_meet
        exact ⟨gn, rfl, hgn, hB, gC, gR, gN⟩
      · go_simp
        have gN := heap_alloc_new v1 (.cells #[.int .i64 0, .int .u64 0, .int .i64 0, .int .i64 0, .int .i64 0, .int .i64 0, .int .u64 0, .int .u64 0, .int .u64 0, .int .i64 0] 61)
        have hgn : w.heap.size + 1 < v1.heap.size := block_lt gR
        have hgx : X < v1.heap.size := block_lt gX
        replace k0 := cell_alloc (o := .cells #[.int .i64 0, .int .u64 0, .int .i64 0, .int .i64 0, .int .i64 0, .int .i64 0, .int .u64 0, .int .u64 0, .int .u64 0, .int .i64 0] 61) k0
        replace k1 := cell_alloc (o := .cells #[.int .i64 0, .int .u64 0, .int .i64 0, .int .i64 0, .int .i64 0, .int .i64 0, .int .u64 0, .int .u64 0, .int .u64 0, .int .i64 0] 61) k1
        replace k2 := cell_alloc (o := .cells #[.int .i64 0, .int .u64 0, .int .i64 0, .int .i64 0, .int .i64 0, .int .i64 0, .int .u64 0, .int .u64 0, .int .u64 0, .int .i64 0] 61) k2
        replace k3 := cell_alloc (o := .cells #[.int .i64 0, .int .u64 0, .int .i64 0, .int .i64 0, .int .i64 0, .int .i64 0, .int .u64 0, .int .u64 0, .int .u64 0, .int .i64 0] 61) k3
        replace k4 := cell_alloc (o := .cells #[.int .i64 0, .int .u64 0, .int .i64 0, .int .i64 0, .int .i64 0, .int .i64 0, .int .u64 0, .int .u64 0, .int .u64 0, .int .i64 0] 61) k4
        replace k5 := cell_alloc (o := .cells #[.int .i64 0, .int .u64 0, .int .i64 0, .int .i64 0, .int .i64 0, .int .i64 0, .int .u64 0, .int .u64 0, .int .u64 0, .int .i64 0] 61) k5
        replace k6 := cell_alloc (o := .cells #[.int .i64 0, .int .u64 0, .int .i64 0, .int .i64 0, .int .i64 0, .int .i64 0, .int .u64 0, .int .u64 0, .int .u64 0, .int .i64 0] 61) k6
        replace k7 := cell_alloc (o := .cells #[.int .i64 0, .int .u64 0, .int .i64 0, .int .i64 0, .int .i64 0, .int .i64 0, .int .u64 0, .int .u64 0, .int .u64 0, .int .i64 0] 61) k7
        replace k8 := cell_alloc (o := .cells #[.int .i64 0, .int .u64 0, .int .i64 0, .int .i64 0, .int .i64 0, .int .i64 0, .int .u64 0, .int .u64 0, .int .u64 0, .int .i64 0] 61) k8
        replace k9 := cell_alloc (o := .cells #[.int .i64 0, .int .u64 0, .int .i64 0, .int .i64 0, .int .i64 0, .int .i64 0, .int .u64 0, .int .u64 0, .int .u64 0, .int .i64 0] 61) k9
        replace k10 := cell_alloc (o := .cells #[.int .i64 0, .int .u64 0, .int .i64 0, .int .i64 0, .int .i64 0, .int .i64 0, .int .u64 0, .int .u64 0, .int .u64 0, .int .i64 0] 61) k10
        replace k11 := cell_alloc (o := .cells #[.int .i64 0, .int .u64 0, .int .i64 0, .int .i64 0, .int .i64 0, .int .i64 0, .int .u64 0, .int .u64 0, .int .u64 0, .int .i64 0] 61) k11
        replace k12 := cell_alloc (o := .cells #[.int .i64 0, .int .u64 0, .int .i64 0, .int .i64 0, .int .i64 0, .int .i64 0, .int .u64 0, .int .u64 0, .int .u64 0, .int .i64 0] 61) k12
        replace gC := block_later (below_new _ (.cells #[.int .i64 0, .int .u64 0, .int .i64 0, .int .i64 0, .int .i64 0, .int .i64 0, .int .u64 0, .int .u64 0, .int .u64 0, .int .i64 0] 61)) gC
        replace gR := block_later (below_new _ (.cells #[.int .i64 0, .int .u64 0, .int .i64 0, .int .i64 0, .int .i64 0, .int .i64 0, .int .u64 0, .int .u64 0, .int .u64 0, .int .i64 0] 61)) gR
        replace gX := block_later (below_new _ (.cells #[.int .i64 0, .int .u64 0, .int .i64 0, .int .i64 0, .int .i64 0, .int .i64 0, .int .u64 0, .int .u64 0, .int .u64 0, .int .i64 0] 61)) gX
        replace hB := below_tr hB (below_new _ (.cells #[.int .i64 0, .int .u64 0, .int .i64 0, .int .i64 0, .int .i64 0, .int .i64 0, .int .u64 0, .int .u64 0, .int .u64 0, .int .i64 0] 61))
        generalize v1.heap.size = gn at *
        generalize v1.alloc (.cells #[.int .i64 0, .int .u64 0, .int .i64 0, .int .i64 0, .int .i64 0, .int .i64 0, .int .u64 0, .int .u64 0, .int .u64 0, .int .i64 0] 61) = va at *
        refine hK.out _ _ ⟨k0, k1, k2, k3, k4, k5, k6, k7, k8, k9, k10, k11, k12⟩ (fun hHelda => ?_)
        clear hK
        try simp only [Act.put, List.setIfInBounds_toArray, List.set_cons_zero, List.set_cons_succ]
        refine wpAnyH_ready (rs := [9]) (by kernel_rfl) (by simp) ?_
        refine AllReadyH.cons rfl (fun K hK => ?_) AllReadyH.nil
        go_simp
        refine (cQ2 _).mono ?_
        rintro e v2 ⟨rfl, hb⟩
        go_wp2_with fail
        replace k0 := cell_later hb k0
        replace k1 := cell_later hb k1
        replace k2 := cell_later hb k2
        replace k3 := cell_later hb k3
        replace k4 := cell_later hb k4
        replace k5 := cell_later hb k5
        replace k6 := cell_later hb k6
        replace k7 := cell_later hb k7
        replace k8 := cell_later hb k8
        replace k9 := cell_later hb k9
        replace k10 := cell_later hb k10
        replace k11 := cell_later hb k11
        replace k12 := cell_later hb k12
        replace gC := block_later hb gC
        replace gR := block_later hb gR
        replace gX := block_later hb gX
        replace gN := block_later hb gN
        replace hB := below_tr hB hb
        clear hb
        refine hK.out _ _ ⟨k0, k1, k2, k3, k4, k5, k6, k7, k8, k9, k10, k11, k12⟩ (fun hHeldc2 => ?_)
        clear hK
        try simp only [Act.put, List.setIfInBounds_toArray, List.set_cons_zero, List.set_cons_succ]
        refine take_at (i := 10) (v := ?_) 30 rfl rfl (by kernel_rfl) (by kernel_rfl) (by kernel_rfl) (fun _ _ _ h => h) (Or.inl ⟨by rfl, ?_⟩) (by assumption) ?_
        rotate_left
        · (intro w' hSw; (try dsimp only at hSw); go_simp; all_goals with_reducible rfl)
        try simp only [Act.put, List.setIfInBounds_toArray, List.set_cons_zero, List.set_cons_succ]
        refine take_at (i := 14) (v := ?_) 34 rfl rfl (by kernel_rfl) (by kernel_rfl) (by kernel_rfl) (fun _ _ _ h => h) (Or.inl ⟨by rfl, ?_⟩) (by assumption) ?_
        rotate_left
        · (intro w' hSw; (try dsimp only at hSw); go_simp; all_goals with_reducible rfl)
        try simp only [Act.put, List.setIfInBounds_toArray, List.set_cons_zero, List.set_cons_succ]
        refine wpAnyH_ready (rs := [16]) (by kernel_rfl) (by simp) ?_
        refine AllReadyH.cons rfl (fun K hK => ?_) AllReadyH.nil
        refine step_store_seg rfl rfl 61 _ _ rfl (gn) 0 _ #[.int .i64 (nK : Nat), .int .u64 (nA : Nat), .int .i64 (nB : Nat), .int .i64 (nR : Nat), .int .i64 (nG : Nat), .int .i64 (nS : Nat), .int .u64 (y : Nat), .int .u64 (nN : Nat), .int .u64 (nP : Nat), .int .i64 D] rfl rfl rfl 61 _ gN (show 0 + 10 ≤ 10 by decide) info10 (by simp [Value.oneCell']) #[.int .i64 (nK : Nat), .int .u64 (nA : Nat), .int .i64 (nB : Nat), .int .i64 (nR : Nat), .int .i64 (nG : Nat), .int .i64 (nS : Nat), .int .u64 (y : Nat), .int .u64 (nN : Nat), .int .u64 (nP : Nat), .int .i64 D] rfl ?_
        intro wsz hrq htq
        replace k0 := turn_cell htq (by omega) k0
        replace k1 := turn_cell htq (by omega) k1
        replace k2 := turn_cell htq (by omega) k2
        replace k3 := turn_cell htq (by omega) k3
        replace k4 := turn_cell htq (by omega) k4
        replace k5 := turn_cell htq (by omega) k5
        replace k6 := turn_cell htq (by omega) k6
        replace k7 := turn_cell htq (by omega) k7
        replace k8 := turn_cell htq (by omega) k8
        replace k9 := turn_cell htq (by omega) k9
        replace k10 := turn_cell htq (by omega) k10
        replace k11 := turn_cell htq (by omega) k11
        replace k12 := turn_cell htq (by omega) k12
        replace gC := block_turn htq gC (by omega)
        replace gR := block_turn htq gR (by omega)
        replace gN := hrq
        replace hB := below_turn hB htq (by omega)
        refine hK.out _ _ ⟨k0, k1, k2, k3, k4, k5, k6, k7, k8, k9, k10, k11, k12⟩ (fun hHeldsz => ?_)
        clear hK hrq
        try simp only [Act.put, List.setIfInBounds_toArray, List.set_cons_zero, List.set_cons_succ]
        refine wpAnyH_done (by kernel_rfl) ?_ _
        refine NoPanic.normal ?_
        go_wp2_with fail
        go_meet
        exact ⟨gn, rfl, hgn, hB, gC, gR, gN⟩
    · go_simp
      have gN := heap_alloc_new Wd (.cells #[.int .i64 0, .int .u64 0, .int .i64 0, .int .i64 0, .int .i64 0, .int .i64 0, .int .u64 0, .int .u64 0, .int .u64 0, .int .i64 0] 61)
      have hgn : w.heap.size + 1 < Wd.heap.size := block_lt gR
      have hgx : X < Wd.heap.size := block_lt gX
      replace k0 := cell_alloc (o := .cells #[.int .i64 0, .int .u64 0, .int .i64 0, .int .i64 0, .int .i64 0, .int .i64 0, .int .u64 0, .int .u64 0, .int .u64 0, .int .i64 0] 61) k0
      replace k1 := cell_alloc (o := .cells #[.int .i64 0, .int .u64 0, .int .i64 0, .int .i64 0, .int .i64 0, .int .i64 0, .int .u64 0, .int .u64 0, .int .u64 0, .int .i64 0] 61) k1
      replace k2 := cell_alloc (o := .cells #[.int .i64 0, .int .u64 0, .int .i64 0, .int .i64 0, .int .i64 0, .int .i64 0, .int .u64 0, .int .u64 0, .int .u64 0, .int .i64 0] 61) k2
      replace k3 := cell_alloc (o := .cells #[.int .i64 0, .int .u64 0, .int .i64 0, .int .i64 0, .int .i64 0, .int .i64 0, .int .u64 0, .int .u64 0, .int .u64 0, .int .i64 0] 61) k3
      replace k4 := cell_alloc (o := .cells #[.int .i64 0, .int .u64 0, .int .i64 0, .int .i64 0, .int .i64 0, .int .i64 0, .int .u64 0, .int .u64 0, .int .u64 0, .int .i64 0] 61) k4
      replace k5 := cell_alloc (o := .cells #[.int .i64 0, .int .u64 0, .int .i64 0, .int .i64 0, .int .i64 0, .int .i64 0, .int .u64 0, .int .u64 0, .int .u64 0, .int .i64 0] 61) k5
      replace k6 := cell_alloc (o := .cells #[.int .i64 0, .int .u64 0, .int .i64 0, .int .i64 0, .int .i64 0, .int .i64 0, .int .u64 0, .int .u64 0, .int .u64 0, .int .i64 0] 61) k6
      replace k7 := cell_alloc (o := .cells #[.int .i64 0, .int .u64 0, .int .i64 0, .int .i64 0, .int .i64 0, .int .i64 0, .int .u64 0, .int .u64 0, .int .u64 0, .int .i64 0] 61) k7
      replace k8 := cell_alloc (o := .cells #[.int .i64 0, .int .u64 0, .int .i64 0, .int .i64 0, .int .i64 0, .int .i64 0, .int .u64 0, .int .u64 0, .int .u64 0, .int .i64 0] 61) k8
      replace k9 := cell_alloc (o := .cells #[.int .i64 0, .int .u64 0, .int .i64 0, .int .i64 0, .int .i64 0, .int .i64 0, .int .u64 0, .int .u64 0, .int .u64 0, .int .i64 0] 61) k9
      replace k10 := cell_alloc (o := .cells #[.int .i64 0, .int .u64 0, .int .i64 0, .int .i64 0, .int .i64 0, .int .i64 0, .int .u64 0, .int .u64 0, .int .u64 0, .int .i64 0] 61) k10
      replace k11 := cell_alloc (o := .cells #[.int .i64 0, .int .u64 0, .int .i64 0, .int .i64 0, .int .i64 0, .int .i64 0, .int .u64 0, .int .u64 0, .int .u64 0, .int .i64 0] 61) k11
      replace k12 := cell_alloc (o := .cells #[.int .i64 0, .int .u64 0, .int .i64 0, .int .i64 0, .int .i64 0, .int .i64 0, .int .u64 0, .int .u64 0, .int .u64 0, .int .i64 0] 61) k12
      replace gC := block_later (below_new _ (.cells #[.int .i64 0, .int .u64 0, .int .i64 0, .int .i64 0, .int .i64 0, .int .i64 0, .int .u64 0, .int .u64 0, .int .u64 0, .int .i64 0] 61)) gC
      replace gR := block_later (below_new _ (.cells #[.int .i64 0, .int .u64 0, .int .i64 0, .int .i64 0, .int .i64 0, .int .i64 0, .int .u64 0, .int .u64 0, .int .u64 0, .int .i64 0] 61)) gR
      replace gX := block_later (below_new _ (.cells #[.int .i64 0, .int .u64 0, .int .i64 0, .int .i64 0, .int .i64 0, .int .i64 0, .int .u64 0, .int .u64 0, .int .u64 0, .int .i64 0] 61)) gX
      replace hB := below_tr hB (below_new _ (.cells #[.int .i64 0, .int .u64 0, .int .i64 0, .int .i64 0, .int .i64 0, .int .i64 0, .int .u64 0, .int .u64 0, .int .u64 0, .int .i64 0] 61))
      generalize Wd.heap.size = gn at *
      generalize Wd.alloc (.cells #[.int .i64 0, .int .u64 0, .int .i64 0, .int .i64 0, .int .i64 0, .int .i64 0, .int .u64 0, .int .u64 0, .int .u64 0, .int .i64 0] 61) = va at *
      refine hK.out _ _ ⟨k0, k1, k2, k3, k4, k5, k6, k7, k8, k9, k10, k11, k12⟩ (fun hHelda => ?_)
      clear hK
      try simp only [Act.put, List.setIfInBounds_toArray, List.set_cons_zero, List.set_cons_succ]
      refine wpAnyH_ready (rs := [4]) (by kernel_rfl) (by simp) ?_
      refine AllReadyH.cons rfl (fun K hK => ?_) AllReadyH.nil
      go_simp
      refine (cQ1 _).mono ?_
      rintro e v1 ⟨rfl, hb⟩
      go_wp2_with fail
      replace k0 := cell_later hb k0
      replace k1 := cell_later hb k1
      replace k2 := cell_later hb k2
      replace k3 := cell_later hb k3
      replace k4 := cell_later hb k4
      replace k5 := cell_later hb k5
      replace k6 := cell_later hb k6
      replace k7 := cell_later hb k7
      replace k8 := cell_later hb k8
      replace k9 := cell_later hb k9
      replace k10 := cell_later hb k10
      replace k11 := cell_later hb k11
      replace k12 := cell_later hb k12
      replace gC := block_later hb gC
      replace gR := block_later hb gR
      replace gX := block_later hb gX
      replace gN := block_later hb gN
      replace hB := below_tr hB hb
      clear hb
      refine hK.out _ _ ⟨k0, k1, k2, k3, k4, k5, k6, k7, k8, k9, k10, k11, k12⟩ (fun hHeldc1 => ?_)
      clear hK
      try simp only [Act.put, List.setIfInBounds_toArray, List.set_cons_zero, List.set_cons_succ]
      refine take_at (i := 5) (v := ?_) 25 rfl rfl (by kernel_rfl) (by kernel_rfl) (by kernel_rfl) (fun _ _ _ h => h) (Or.inl ⟨by rfl, ?_⟩) (by assumption) ?_
      rotate_left
      · (intro w' hSw; (try dsimp only at hSw); go_simp; all_goals with_reducible rfl)
      try simp only [Act.put, List.setIfInBounds_toArray, List.set_cons_zero, List.set_cons_succ]
      refine wpAnyH_ready (rs := [9]) (by kernel_rfl) (by simp) ?_
      refine AllReadyH.cons rfl (fun K hK => ?_) AllReadyH.nil
      go_simp
      refine (cQ2 _).mono ?_
      rintro e v2 ⟨rfl, hb⟩
      go_wp2_with fail
      replace k0 := cell_later hb k0
      replace k1 := cell_later hb k1
      replace k2 := cell_later hb k2
      replace k3 := cell_later hb k3
      replace k4 := cell_later hb k4
      replace k5 := cell_later hb k5
      replace k6 := cell_later hb k6
      replace k7 := cell_later hb k7
      replace k8 := cell_later hb k8
      replace k9 := cell_later hb k9
      replace k10 := cell_later hb k10
      replace k11 := cell_later hb k11
      replace k12 := cell_later hb k12
      replace gC := block_later hb gC
      replace gR := block_later hb gR
      replace gX := block_later hb gX
      replace gN := block_later hb gN
      replace hB := below_tr hB hb
      clear hb
      refine hK.out _ _ ⟨k0, k1, k2, k3, k4, k5, k6, k7, k8, k9, k10, k11, k12⟩ (fun hHeldc2 => ?_)
      clear hK
      try simp only [Act.put, List.setIfInBounds_toArray, List.set_cons_zero, List.set_cons_succ]
      refine take_at (i := 10) (v := ?_) 30 rfl rfl (by kernel_rfl) (by kernel_rfl) (by kernel_rfl) (fun _ _ _ h => h) (Or.inl ⟨by rfl, ?_⟩) (by assumption) ?_
      rotate_left
      · (intro w' hSw; (try dsimp only at hSw); go_simp; all_goals with_reducible rfl)
      try simp only [Act.put, List.setIfInBounds_toArray, List.set_cons_zero, List.set_cons_succ]
      refine take_at (i := 14) (v := ?_) 34 rfl rfl (by kernel_rfl) (by kernel_rfl) (by kernel_rfl) (fun _ _ _ h => h) (Or.inl ⟨by rfl, ?_⟩) (by assumption) ?_
      rotate_left
      · (intro w' hSw; (try dsimp only at hSw); go_simp; all_goals with_reducible rfl)
      try simp only [Act.put, List.setIfInBounds_toArray, List.set_cons_zero, List.set_cons_succ]
      refine wpAnyH_ready (rs := [16]) (by kernel_rfl) (by simp) ?_
      refine AllReadyH.cons rfl (fun K hK => ?_) AllReadyH.nil
      refine step_store_seg rfl rfl 61 _ _ rfl (gn) 0 _ #[.int .i64 (nK : Nat), .int .u64 (nA : Nat), .int .i64 (nB : Nat), .int .i64 (nR : Nat), .int .i64 (nG : Nat), .int .i64 (nS : Nat), .int .u64 (y : Nat), .int .u64 (nN : Nat), .int .u64 (nP : Nat), .int .i64 D] rfl rfl rfl 61 _ gN (show 0 + 10 ≤ 10 by decide) info10 (by simp [Value.oneCell']) #[.int .i64 (nK : Nat), .int .u64 (nA : Nat), .int .i64 (nB : Nat), .int .i64 (nR : Nat), .int .i64 (nG : Nat), .int .i64 (nS : Nat), .int .u64 (y : Nat), .int .u64 (nN : Nat), .int .u64 (nP : Nat), .int .i64 D] rfl ?_
      intro wsz hrq htq
      replace k0 := turn_cell htq (by omega) k0
      replace k1 := turn_cell htq (by omega) k1
      replace k2 := turn_cell htq (by omega) k2
      replace k3 := turn_cell htq (by omega) k3
      replace k4 := turn_cell htq (by omega) k4
      replace k5 := turn_cell htq (by omega) k5
      replace k6 := turn_cell htq (by omega) k6
      replace k7 := turn_cell htq (by omega) k7
      replace k8 := turn_cell htq (by omega) k8
      replace k9 := turn_cell htq (by omega) k9
      replace k10 := turn_cell htq (by omega) k10
      replace k11 := turn_cell htq (by omega) k11
      replace k12 := turn_cell htq (by omega) k12
      replace gC := block_turn htq gC (by omega)
      replace gR := block_turn htq gR (by omega)
      replace gN := hrq
      replace hB := below_turn hB htq (by omega)
      refine hK.out _ _ ⟨k0, k1, k2, k3, k4, k5, k6, k7, k8, k9, k10, k11, k12⟩ (fun hHeldsz => ?_)
      clear hK hrq
      try simp only [Act.put, List.setIfInBounds_toArray, List.set_cons_zero, List.set_cons_succ]
      refine wpAnyH_done (by kernel_rfl) ?_ _
      refine NoPanic.normal ?_
      go_wp2_with fail
      go_meet
      exact ⟨gn, rfl, hgn, hB, gC, gR, gN⟩
  case rest =>
    obtain ⟨gn, rfl, hgn, hB, gC, gR, gN⟩ := hcut
    clear cQ1 cQ2 cR e1 e2 f1 f2
    by_cases hE : E = 0
    · have dE : ((E : Int) != 0) = false := by rw [bne_eq_false_iff_eq]; exact hE
      have HE : Hid (E = 0) := hE
      clear hE
      cases q
      · obtain ⟨c0, c1, c2, c3⟩ := cells4 gC
        have cp0 := fun o => cell_alloc (o := o) c0
        have cp1 := fun o => cell_alloc (o := o) c1
        have cp2 := fun o => cell_alloc (o := o) c2
        have cp3 := fun o => cell_alloc (o := o) c3
        obtain ⟨j0, j1, j2, j3, j4, j5, j6, j7, j8, j9⟩ := cells10 gN
        have jp0 := fun o => cell_alloc (o := o) j0
        have jp1 := fun o => cell_alloc (o := o) j1
        have jp2 := fun o => cell_alloc (o := o) j2
        have jp3 := fun o => cell_alloc (o := o) j3
        have jp4 := fun o => cell_alloc (o := o) j4
        have jp5 := fun o => cell_alloc (o := o) j5
        have jp6 := fun o => cell_alloc (o := o) j6
        have jp7 := fun o => cell_alloc (o := o) j7
        have jp8 := fun o => cell_alloc (o := o) j8
        have jp9 := fun o => cell_alloc (o := o) j9
        go_wp2_with fail
        refine (hW _ (hP.later hB)).mono ?_
        clear c0 cp0 c1 cp1 c2 cp2 c3 cp3 j0 jp0 j1 jp1 j2 jp2 j3 jp3 j4 jp4 j5 jp5 j6 jp6 j7 jp7 j8 jp8 j9 jp9
        rintro e w1 ⟨rfl, hb⟩
        replace gC := block_later hb gC
        replace gR := block_later hb gR
        replace gN := block_later hb gN
        replace hB := below_tr hB hb
        clear hb
        obtain ⟨c0, c1, c2, c3⟩ := cells4 gC
        have cp0 := fun o => cell_alloc (o := o) c0
        have cp1 := fun o => cell_alloc (o := o) c1
        have cp2 := fun o => cell_alloc (o := o) c2
        have cp3 := fun o => cell_alloc (o := o) c3
        obtain ⟨j0, j1, j2, j3, j4, j5, j6, j7, j8, j9⟩ := cells10 gN
        have jp0 := fun o => cell_alloc (o := o) j0
        have jp1 := fun o => cell_alloc (o := o) j1
        have jp2 := fun o => cell_alloc (o := o) j2
        have jp3 := fun o => cell_alloc (o := o) j3
        have jp4 := fun o => cell_alloc (o := o) j4
        have jp5 := fun o => cell_alloc (o := o) j5
        have jp6 := fun o => cell_alloc (o := o) j6
        have jp7 := fun o => cell_alloc (o := o) j7
        have jp8 := fun o => cell_alloc (o := o) j8
        have jp9 := fun o => cell_alloc (o := o) j9
        go_upto_region 6 with fail
        clear c0 cp0 c1 cp1 c2 cp2 c3 cp3 j0 jp0 j1 jp1 j2 jp2 j3 jp3 j4 jp4 j5 jp5 j6 jp6 j7 jp7 j8 jp8 j9 jp9
        have gT := heap_alloc_new w1 (.cells #[.int .u64 (N : Nat), .int .u64 (M : Nat), .int .u64 (L : Nat), .int .u64 (V : Nat)] 97)
        replace gC := block_later (below_new _ (.cells #[.int .u64 (N : Nat), .int .u64 (M : Nat), .int .u64 (L : Nat), .int .u64 (V : Nat)] 97)) gC
        replace gR := block_later (below_new _ (.cells #[.int .u64 (N : Nat), .int .u64 (M : Nat), .int .u64 (L : Nat), .int .u64 (V : Nat)] 97)) gR
        replace gN := block_later (below_new _ (.cells #[.int .u64 (N : Nat), .int .u64 (M : Nat), .int .u64 (L : Nat), .int .u64 (V : Nat)] 97)) gN
        replace hB := below_tr hB (below_new _ (.cells #[.int .u64 (N : Nat), .int .u64 (M : Nat), .int .u64 (L : Nat), .int .u64 (V : Nat)] 97))
        generalize w1.heap.size = T at *
        generalize w1.alloc (.cells #[.int .u64 (N : Nat), .int .u64 (M : Nat), .int .u64 (L : Nat), .int .u64 (V : Nat)] 97) = w1a at *
        obtain ⟨c0, c1, c2, c3⟩ := cells4 gC
        have cp0 := fun o => cell_alloc (o := o) c0
        have cp1 := fun o => cell_alloc (o := o) c1
        have cp2 := fun o => cell_alloc (o := o) c2
        have cp3 := fun o => cell_alloc (o := o) c3
        obtain ⟨j0, j1, j2, j3, j4, j5, j6, j7, j8, j9⟩ := cells10 gN
        have jp0 := fun o => cell_alloc (o := o) j0
        have jp1 := fun o => cell_alloc (o := o) j1
        have jp2 := fun o => cell_alloc (o := o) j2
        have jp3 := fun o => cell_alloc (o := o) j3
        have jp4 := fun o => cell_alloc (o := o) j4
        have jp5 := fun o => cell_alloc (o := o) j5
        have jp6 := fun o => cell_alloc (o := o) j6
        have jp7 := fun o => cell_alloc (o := o) j7
        have jp8 := fun o => cell_alloc (o := o) j8
        have jp9 := fun o => cell_alloc (o := o) j9
        obtain ⟨t0, t1, t2, t3⟩ := cells4 gT
        have tp0 := fun o => cell_alloc (o := o) t0
        have tp1 := fun o => cell_alloc (o := o) t1
        have tp2 := fun o => cell_alloc (o := o) t2
        have tp3 := fun o => cell_alloc (o := o) t3
        go_wp2_with (first
          | (refine wpList_store_segTo rfl 61 _ _ rfl rfl (w.heap.size + 1) 0 _ #[.int .i64 0, .int .u64 0, .int .i64 0, .int .i64 0, .int .i64 0, .int .i64 0, .int .u64 0, .int .u64 0, .int .u64 0, .int .i64 0] rfl rfl rfl 61 _ gR (show 0 + 10 ≤ 10 by decide) info10 (by simp [Value.oneCell']) #[.int .i64 0, .int .u64 0, .int .i64 0, .int .i64 0, .int .i64 0, .int .i64 0, .int .u64 0, .int .u64 0, .int .u64 0, .int .i64 0] rfl ?_; intro wq hrq htq)
          | fail)
        refine bodyPost_ret (res_row_tmp rfl _ wq (w.heap.size + 1) 61 #[.int .i64 0, .int .u64 0, .int .i64 0, .int .i64 0, .int .i64 0, .int .i64 0, .int .u64 0, .int .u64 0, .int .u64 0, .int .i64 0] (0, 0) _ rfl hrq Tryd.underlying61 rfl info10) rfl ?_
        exact ⟨by unfold slA slC; rw [if_neg (fun h => by cases h.2), if_neg (fun h => by cases h.2)]; rfl, below_turn hB htq hRB⟩
      · obtain ⟨c0, c1, c2, c3⟩ := cells4 gC
        have cp0 := fun o => cell_alloc (o := o) c0
        have cp1 := fun o => cell_alloc (o := o) c1
        have cp2 := fun o => cell_alloc (o := o) c2
        have cp3 := fun o => cell_alloc (o := o) c3
        obtain ⟨j0, j1, j2, j3, j4, j5, j6, j7, j8, j9⟩ := cells10 gN
        have jp0 := fun o => cell_alloc (o := o) j0
        have jp1 := fun o => cell_alloc (o := o) j1
        have jp2 := fun o => cell_alloc (o := o) j2
        have jp3 := fun o => cell_alloc (o := o) j3
        have jp4 := fun o => cell_alloc (o := o) j4
        have jp5 := fun o => cell_alloc (o := o) j5
        have jp6 := fun o => cell_alloc (o := o) j6
        have jp7 := fun o => cell_alloc (o := o) j7
        have jp8 := fun o => cell_alloc (o := o) j8
        have jp9 := fun o => cell_alloc (o := o) j9
        go_wp2_with fail
        refine (hW _ (hP.later hB)).mono ?_
        clear c0 cp0 c1 cp1 c2 cp2 c3 cp3 j0 jp0 j1 jp1 j2 jp2 j3 jp3 j4 jp4 j5 jp5 j6 jp6 j7 jp7 j8 jp8 j9 jp9
        rintro e w1 ⟨rfl, hb⟩
        replace gC := block_later hb gC
        replace gR := block_later hb gR
        replace gN := block_later hb gN
        replace hB := below_tr hB hb
        clear hb
        obtain ⟨c0, c1, c2, c3⟩ := cells4 gC
        have cp0 := fun o => cell_alloc (o := o) c0
        have cp1 := fun o => cell_alloc (o := o) c1
        have cp2 := fun o => cell_alloc (o := o) c2
        have cp3 := fun o => cell_alloc (o := o) c3
        obtain ⟨j0, j1, j2, j3, j4, j5, j6, j7, j8, j9⟩ := cells10 gN
        have jp0 := fun o => cell_alloc (o := o) j0
        have jp1 := fun o => cell_alloc (o := o) j1
        have jp2 := fun o => cell_alloc (o := o) j2
        have jp3 := fun o => cell_alloc (o := o) j3
        have jp4 := fun o => cell_alloc (o := o) j4
        have jp5 := fun o => cell_alloc (o := o) j5
        have jp6 := fun o => cell_alloc (o := o) j6
        have jp7 := fun o => cell_alloc (o := o) j7
        have jp8 := fun o => cell_alloc (o := o) j8
        have jp9 := fun o => cell_alloc (o := o) j9
        go_upto_region 6 with fail
        clear c0 cp0 c1 cp1 c2 cp2 c3 cp3 j0 jp0 j1 jp1 j2 jp2 j3 jp3 j4 jp4 j5 jp5 j6 jp6 j7 jp7 j8 jp8 j9 jp9
        have gT := heap_alloc_new w1 (.cells #[.int .u64 (N : Nat), .int .u64 (M : Nat), .int .u64 (L : Nat), .int .u64 (V : Nat)] 97)
        replace gC := block_later (below_new _ (.cells #[.int .u64 (N : Nat), .int .u64 (M : Nat), .int .u64 (L : Nat), .int .u64 (V : Nat)] 97)) gC
        replace gR := block_later (below_new _ (.cells #[.int .u64 (N : Nat), .int .u64 (M : Nat), .int .u64 (L : Nat), .int .u64 (V : Nat)] 97)) gR
        replace gN := block_later (below_new _ (.cells #[.int .u64 (N : Nat), .int .u64 (M : Nat), .int .u64 (L : Nat), .int .u64 (V : Nat)] 97)) gN
        replace hB := below_tr hB (below_new _ (.cells #[.int .u64 (N : Nat), .int .u64 (M : Nat), .int .u64 (L : Nat), .int .u64 (V : Nat)] 97))
        generalize w1.heap.size = T at *
        generalize w1.alloc (.cells #[.int .u64 (N : Nat), .int .u64 (M : Nat), .int .u64 (L : Nat), .int .u64 (V : Nat)] 97) = w1a at *
        obtain ⟨c0, c1, c2, c3⟩ := cells4 gC
        have cp0 := fun o => cell_alloc (o := o) c0
        have cp1 := fun o => cell_alloc (o := o) c1
        have cp2 := fun o => cell_alloc (o := o) c2
        have cp3 := fun o => cell_alloc (o := o) c3
        obtain ⟨j0, j1, j2, j3, j4, j5, j6, j7, j8, j9⟩ := cells10 gN
        have jp0 := fun o => cell_alloc (o := o) j0
        have jp1 := fun o => cell_alloc (o := o) j1
        have jp2 := fun o => cell_alloc (o := o) j2
        have jp3 := fun o => cell_alloc (o := o) j3
        have jp4 := fun o => cell_alloc (o := o) j4
        have jp5 := fun o => cell_alloc (o := o) j5
        have jp6 := fun o => cell_alloc (o := o) j6
        have jp7 := fun o => cell_alloc (o := o) j7
        have jp8 := fun o => cell_alloc (o := o) j8
        have jp9 := fun o => cell_alloc (o := o) j9
        obtain ⟨t0, t1, t2, t3⟩ := cells4 gT
        have tp0 := fun o => cell_alloc (o := o) t0
        have tp1 := fun o => cell_alloc (o := o) t1
        have tp2 := fun o => cell_alloc (o := o) t2
        have tp3 := fun o => cell_alloc (o := o) t3
        go_wp2_with (first
          | (refine wpList_store_segTo rfl 61 _ _ rfl rfl (w.heap.size + 1) 0 _ #[.int .i64 (nK : Nat), .int .u64 (nA : Nat), .int .i64 (nB : Nat), .int .i64 (nR : Nat), .int .i64 (nG : Nat), .int .i64 (nS : Nat), .int .u64 (y : Nat), .int .u64 (nN : Nat), .int .u64 (nP : Nat), .int .i64 D] rfl rfl rfl 61 _ gR (show 0 + 10 ≤ 10 by decide) info10 (by simp [Value.oneCell']) #[.int .i64 (nK : Nat), .int .u64 (nA : Nat), .int .i64 (nB : Nat), .int .i64 (nR : Nat), .int .i64 (nG : Nat), .int .i64 (nS : Nat), .int .u64 (y : Nat), .int .u64 (nN : Nat), .int .u64 (nP : Nat), .int .i64 D] rfl ?_; intro wq hrq htq)
          | fail)
        refine bodyPost_ret (res_row_tmp rfl _ wq (w.heap.size + 1) 61 #[.int .i64 (nK : Nat), .int .u64 (nA : Nat), .int .i64 (nB : Nat), .int .i64 (nR : Nat), .int .i64 (nG : Nat), .int .i64 (nS : Nat), .int .u64 (y : Nat), .int .u64 (nN : Nat), .int .u64 (nP : Nat), .int .i64 D] (0, 0) _ rfl hrq Tryd.underlying61 rfl info10) rfl ?_
        exact ⟨by unfold slA slC; rw [if_pos ⟨HE.out, rfl⟩, if_pos ⟨HE.out, rfl⟩]; rfl, below_turn hB htq hRB⟩
    · have dE : ((E : Int) != 0) = true := by rw [bne_iff_ne]; exact hE
      have HE : Hid (¬ E = 0) := hE
      clear hE
      obtain ⟨c0, c1, c2, c3⟩ := cells4 gC
      have cp0 := fun o => cell_alloc (o := o) c0
      have cp1 := fun o => cell_alloc (o := o) c1
      have cp2 := fun o => cell_alloc (o := o) c2
      have cp3 := fun o => cell_alloc (o := o) c3
      obtain ⟨j0, j1, j2, j3, j4, j5, j6, j7, j8, j9⟩ := cells10 gN
      have jp0 := fun o => cell_alloc (o := o) j0
      have jp1 := fun o => cell_alloc (o := o) j1
      have jp2 := fun o => cell_alloc (o := o) j2
      have jp3 := fun o => cell_alloc (o := o) j3
      have jp4 := fun o => cell_alloc (o := o) j4
      have jp5 := fun o => cell_alloc (o := o) j5
      have jp6 := fun o => cell_alloc (o := o) j6
      have jp7 := fun o => cell_alloc (o := o) j7
      have jp8 := fun o => cell_alloc (o := o) j8
      have jp9 := fun o => cell_alloc (o := o) j9
      go_wp2_with fail
      refine (hW _ (hP.later hB)).mono ?_
      clear c0 cp0 c1 cp1 c2 cp2 c3 cp3 j0 jp0 j1 jp1 j2 jp2 j3 jp3 j4 jp4 j5 jp5 j6 jp6 j7 jp7 j8 jp8 j9 jp9
      rintro e w1 ⟨rfl, hb⟩
      replace gC := block_later hb gC
      replace gR := block_later hb gR
      replace gN := block_later hb gN
      replace hB := below_tr hB hb
      clear hb
      obtain ⟨c0, c1, c2, c3⟩ := cells4 gC
      have cp0 := fun o => cell_alloc (o := o) c0
      have cp1 := fun o => cell_alloc (o := o) c1
      have cp2 := fun o => cell_alloc (o := o) c2
      have cp3 := fun o => cell_alloc (o := o) c3
      obtain ⟨j0, j1, j2, j3, j4, j5, j6, j7, j8, j9⟩ := cells10 gN
      have jp0 := fun o => cell_alloc (o := o) j0
      have jp1 := fun o => cell_alloc (o := o) j1
      have jp2 := fun o => cell_alloc (o := o) j2
      have jp3 := fun o => cell_alloc (o := o) j3
      have jp4 := fun o => cell_alloc (o := o) j4
      have jp5 := fun o => cell_alloc (o := o) j5
      have jp6 := fun o => cell_alloc (o := o) j6
      have jp7 := fun o => cell_alloc (o := o) j7
      have jp8 := fun o => cell_alloc (o := o) j8
      have jp9 := fun o => cell_alloc (o := o) j9
      go_upto_region 6 with fail
      clear c0 cp0 c1 cp1 c2 cp2 c3 cp3 j0 jp0 j1 jp1 j2 jp2 j3 jp3 j4 jp4 j5 jp5 j6 jp6 j7 jp7 j8 jp8 j9 jp9
      have gT := heap_alloc_new w1 (.cells #[.int .u64 (N : Nat), .int .u64 (M : Nat), .int .u64 (L : Nat), .int .u64 (V : Nat)] 97)
      replace gC := block_later (below_new _ (.cells #[.int .u64 (N : Nat), .int .u64 (M : Nat), .int .u64 (L : Nat), .int .u64 (V : Nat)] 97)) gC
      replace gR := block_later (below_new _ (.cells #[.int .u64 (N : Nat), .int .u64 (M : Nat), .int .u64 (L : Nat), .int .u64 (V : Nat)] 97)) gR
      replace gN := block_later (below_new _ (.cells #[.int .u64 (N : Nat), .int .u64 (M : Nat), .int .u64 (L : Nat), .int .u64 (V : Nat)] 97)) gN
      replace hB := below_tr hB (below_new _ (.cells #[.int .u64 (N : Nat), .int .u64 (M : Nat), .int .u64 (L : Nat), .int .u64 (V : Nat)] 97))
      generalize w1.heap.size = T at *
      generalize w1.alloc (.cells #[.int .u64 (N : Nat), .int .u64 (M : Nat), .int .u64 (L : Nat), .int .u64 (V : Nat)] 97) = w1a at *
      obtain ⟨c0, c1, c2, c3⟩ := cells4 gC
      have cp0 := fun o => cell_alloc (o := o) c0
      have cp1 := fun o => cell_alloc (o := o) c1
      have cp2 := fun o => cell_alloc (o := o) c2
      have cp3 := fun o => cell_alloc (o := o) c3
      obtain ⟨j0, j1, j2, j3, j4, j5, j6, j7, j8, j9⟩ := cells10 gN
      have jp0 := fun o => cell_alloc (o := o) j0
      have jp1 := fun o => cell_alloc (o := o) j1
      have jp2 := fun o => cell_alloc (o := o) j2
      have jp3 := fun o => cell_alloc (o := o) j3
      have jp4 := fun o => cell_alloc (o := o) j4
      have jp5 := fun o => cell_alloc (o := o) j5
      have jp6 := fun o => cell_alloc (o := o) j6
      have jp7 := fun o => cell_alloc (o := o) j7
      have jp8 := fun o => cell_alloc (o := o) j8
      have jp9 := fun o => cell_alloc (o := o) j9
      obtain ⟨t0, t1, t2, t3⟩ := cells4 gT
      have tp0 := fun o => cell_alloc (o := o) t0
      have tp1 := fun o => cell_alloc (o := o) t1
      have tp2 := fun o => cell_alloc (o := o) t2
      have tp3 := fun o => cell_alloc (o := o) t3
      go_wp2_with (first
        | (refine wpList_store_segTo rfl 61 _ _ rfl rfl (w.heap.size + 1) 0 _ #[.int .i64 0, .int .u64 0, .int .i64 0, .int .i64 0, .int .i64 0, .int .i64 0, .int .u64 0, .int .u64 0, .int .u64 0, .int .i64 0] rfl rfl rfl 61 _ gR (show 0 + 10 ≤ 10 by decide) info10 (by simp [Value.oneCell']) #[.int .i64 0, .int .u64 0, .int .i64 0, .int .i64 0, .int .i64 0, .int .i64 0, .int .u64 0, .int .u64 0, .int .u64 0, .int .i64 0] rfl ?_; intro wq hrq htq)
        | fail)
      refine bodyPost_ret (res_row_tmp rfl _ wq (w.heap.size + 1) 61 #[.int .i64 0, .int .u64 0, .int .i64 0, .int .i64 0, .int .i64 0, .int .i64 0, .int .u64 0, .int .u64 0, .int .u64 0, .int .i64 0] (0, 0) _ rfl hrq Tryd.underlying61 rfl info10) rfl ?_
      exact ⟨by unfold slA slC; rw [if_neg (fun h => HE.out h.1), if_neg (fun h => HE.out h.1)]; rfl, below_turn hB htq hRB⟩

/-- What Load tells of four words. -/
def slV (x y z u : Nat) : Array Value := if okS x y z u = true then #[.int .i64 (rdK x : Nat), .int .u64 (rdA x : Nat), .int .i64 (rdB x : Nat), .int .i64 (rdR x : Nat), .int .i64 (rdG x : Nat), .int .i64 (rdS x : Nat), .int .u64 (y : Nat), .int .u64 (slN z : Nat), .int .u64 (slP z : Nat), .int .i64 (u : Nat)] else #[.int .i64 0, .int .u64 0, .int .i64 0, .int .i64 0, .int .i64 0, .int .i64 0, .int .u64 0, .int .u64 0, .int .u64 0, .int .i64 0]
def slE (x y z u : Nat) : Int := if okS x y z u = true then 0 else 10
theorem slN_lk (z : Nat) : slN z < 4294967296 ∧ slN z % 32 = 0 := by unfold slN; omega
theorem slP_lk (z : Nat) : slP z < 4294967296 ∧ slP z % 32 = 0 := by unfold slP; omega
theorem slot_any (x y z u : Nat) (hx : x < 18446744073709551616) (hy : y < 18446744073709551616) (hz : z < 18446744073709551616) (hu : u < 18446744073709551616) (w : World) (hP : SPrts w) :
    Calls Tryd.prog 60 #[.agg #[.int .u64 (x : Nat), .int .u64 (y : Nat), .int .u64 (z : Nat), .int .u64 (u : Nat)]] w fun e w' => e = .returned (.tuple #[.agg (slV x y z u), .int .i64 (slE x y z u)]) ∧ Below w.heap.size w w' := by
  cases hok : rdOK x y
  · have e : okS x y z u = false := by unfold okS; rw [hok]; rfl
    have := slot_no x y z u hx hy hok w hP
    unfold slV slE
    rw [e, if_neg (by decide), if_neg (by decide)]
    exact this
  · have hRt := rd_bounds x y hy
    have hc : cB (rdK x) (rdA x) (rdB x) (rdR x) (rdG x) (rdS x) y = true ∧ wordN (rdK x) (rdA x) (rdB x) (rdR x) (rdG x) (rdS x) = x := by
      unfold rdOK at hok
      rw [Bool.and_eq_true, beq_iff_eq] at hok
      exact hok
    by_cases h4 : u ≤ 4096
    · have hD : IntKind.i64.wrap (u : Int) = (u : Int) := by rw [IntKind.wrap_i64]; omega
      have := slot_mk x y z u _ _ _ _ _ _ _ _ (wordN (rdK x) (rdA x) (rdB x) (rdR x) (rdG x) (rdS x)) y (lnkN (slN z) (slP z)) u u 0 hx hy hz hok rfl rfl rfl rfl rfl rfl rfl rfl hD w hP (fun w1 h1 => swords_ok hRt hc.1 (slN_lk z) (slP_lk z) h4 w1 h1)
      rw [hc.2] at this
      have e : eqWB x y (lnkN (slN z) (slP z)) u x y z u = okS x y z u := by
        unfold eqWB okS
        rw [hok, decide_eq_true h4]; simp
      rw [e] at this
      unfold slA slC at this
      unfold slV slE
      generalize okS x y z u = q at this ⊢
      cases q
      · rw [if_neg (fun h => by cases h.2), if_neg (fun h => by cases h.2)] at this
        rw [if_neg (by decide), if_neg (by decide)]
        exact this
      · rw [if_pos ⟨rfl, rfl⟩, if_pos ⟨rfl, rfl⟩] at this
        rw [if_pos rfl, if_pos rfl]
        exact this
    · have e : okS x y z u = false := by unfold okS; rw [decide_eq_false h4]; simp
      have hD : ¬ (0 ≤ IntKind.i64.wrap (u : Int) ∧ IntKind.i64.wrap (u : Int) ≤ 4096) := by rw [IntKind.wrap_i64]; omega
      have hs : sB (rdK x) (rdA x) (rdB x) (rdR x) (rdG x) (rdS x) y (slN z) (slP z) (IntKind.i64.wrap (u : Int)) = false := by
        rw [← Bool.not_eq_true, s_iff]
        exact fun h => hD h.2.2.2
      have := slot_mk x y z u _ _ _ _ _ _ _ _ 0 0 0 0 _ 10 hx hy hz hok rfl rfl rfl rfl rfl rfl rfl rfl rfl w hP (fun w1 h1 => swords_bad _ _ _ _ _ _ _ _ _ _ (by have := hRt.qa; omega) hy (by have := (slN_lk z).1; omega) (by have := (slP_lk z).1; omega) hs w1)
      unfold slA slC at this
      rw [if_neg (fun h => absurd h.1 (by decide)), if_neg (fun h => absurd h.1 (by decide))] at this
      unfold slV slE
      rw [e, if_neg (by decide), if_neg (by decide)]
      exact this
end Go.Proofs.YtcmndefjmhcbhaaDoor
