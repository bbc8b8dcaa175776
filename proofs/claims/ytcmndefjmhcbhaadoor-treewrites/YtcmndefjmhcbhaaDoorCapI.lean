/- Capabilities: Read. -/
import Derived.Test.YtcmndefjmhcbhaaDoorCapH
set_option linter.unusedVariables false
namespace Go.Proofs.YtcmndefjmhcbhaaDoor
open Go.RowKit

theorem info7 : (Tryd.prog.info? 33).map (·.size) = some 7 := by kernel_rfl
theorem turn_cell {w W : World} {X : Nat → Prop} {B i : Nat} {v : Value} (ht : Turn X w W) (hX : ¬ X B) (h : w.cell? ⟨B, i, none⟩ = some v) : W.cell? ⟨B, i, none⟩ = some v :=
  (World.cell?_of_block (a := ⟨B, i, none⟩) (ht.block B (World.block_lt_of_cell? w ⟨B, i, none⟩ h) hX)).trans h
/-- A struct stored into a block, as one step of a region that draws. -/
theorem step_store_seg {P : Program} {ops : Array Oper} {op : Oper} {a : Act} {w : World} {Q : Exit → Act → World → Prop} {K : Act → World → Prop} {E : Prop} (hgd : op.guard = none) (hd : op.dst = none) (ty : TypeId) (x y : Operand) (ho : op.op = .store ty x y)
    (g o : Nat) (v : Value) (cells : Array Value) (hx : a.eval x = .pointer (some ⟨g, o, none⟩)) (hy : a.eval y = v) (hc : v.cells = cells)
    (t : TypeId) (cur : Array Value) (hg : w.heap[g]? = some (.cells cur t (0, 0))) (hfit : o + cells.size ≤ cur.size) (hi : (P.info? ty).map (·.size) = some cells.size) (h1 : cells.all (·.oneCell') = true)
    (new : Array Value) (hnew : segA cur o cells.toList = new)
    (h : ∀ wq, wq.heap[g]? = some (.cells new t (0, 0)) → Turn (fun i => i = g) w wq → K a wq) : if Region.wanted op (yielded ops a.tmps) = true then Oper.wp P op a w K Q else E := by
  have hw : Region.wanted op (yielded ops a.tmps) = true := by simp [Region.wanted, hgd]
  rw [if_pos hw]
  have hst := run_storeCells_at P g o t cells.toList 0 cur w hg (by simpa using hfit) (fun v hv => (Array.all_eq_true_iff_forall_mem.1 h1) v (by simpa using hv))
  have hsv : (storeVar ty ⟨g, o, none⟩ v).run P w = .ok () (w.setRow g new) := by
    cases hq : P.info? ty with
    | none => simp [hq] at hi
    | some i =>
      have hs : cells.size = i.size := by simp [hq] at hi; omega
      simp only [Nat.add_zero] at hst
      rw [← hnew]
      simp [storeVar, sizeOf, typeInfo, hq, hc, hs, hst, segA]
  unfold Oper.wp execOp
  simp only [ho, hx, hy, Instr.storeAt, Instr.sureAddr, Sem.run_bind, Sem.run_pure, Result.andThen_ok, hsv]
  have h2 := h _ (setRow_heap _ _ _ _ _ _ hg) (turn_setRow _ _ _)
  show K (a.put op.dst undef) _
  rw [hd]
  exact h2

theorem res_row_tmp {P : Program} {fn : Func} {p u : Tmp} {ty : TypeId} (h : fn.results = #[.cell p ty, .tmp u]) (tmps : Array Value) (w : World) (g : Nat) (t : TypeId) (cs : Array Value) (fr : Nat × Nat) (d : TypeDesc)
    (hp : tmps.getD p undef = .pointer (some ⟨g, 0, none⟩)) (hg : w.heap[g]? = some (.cells cs t fr))
    (hu : P.underlying ty = some d) (hd : (match d with | .struct _ | .array _ _ => true | _ => false) = true) (hi : (P.info? ty).map (·.size) = some cs.size) :
    (results fn tmps).run P w = .ok (.tuple #[.agg cs, tmps.getD u undef]) w := by
  rw [results_cell_tmp h, hp]
  simp [asAddr, run_loadVar_row w g t ty cs fr d hg hu hd hi, Result.andThen]

/-- The parts that a first word has. -/
def rdK (x : Nat) : Nat := x % 16
def rdB (x : Nat) : Nat := x / 16 % 64
def rdR (x : Nat) : Nat := x / 1024 % 8
def rdG (x : Nat) : Nat := x / 8192 % 64
def rdS (x : Nat) : Nat := x / 524288 % 65536
def rdA (x : Nat) : Nat := x / 34359738368 % 134217728 * 32
theorem rd_bounds (x y : Nat) (hy : y < 18446744073709551616) : Rt (rdK x) (rdA x) (rdB x) (rdR x) (rdG x) (rdS x) y := by
  unfold rdK rdA rdB rdR rdG rdS
  exact ⟨by omega, by omega, by omega, by omega, by omega, by omega, by omega, hy⟩
/-- Are two words a capability, by the program? -/
def rdOK (x y : Nat) : Bool := cB (rdK x) (rdA x) (rdB x) (rdR x) (rdG x) (rdS x) y && (wordN (rdK x) (rdA x) (rdB x) (rdR x) (rdG x) (rdS x) == x)

def rdA2 (E : Int) (N x : Nat) (c : Array Value) : Array Value := if E = 0 ∧ N = x then c else #[.int .i64 0, .int .u64 0, .int .i64 0, .int .i64 0, .int .i64 0, .int .i64 0, .int .u64 0]
def rdC2 (E : Int) (N x : Nat) : Int := if E = 0 ∧ N = x then 0 else 10
set_option maxRecDepth 100000 in
set_option maxHeartbeats 8000000 in
theorem read_mk (x y nK nA nB nR nG nS N M : Nat) (E : Int) (hx : x < 18446744073709551616) (hy : y < 18446744073709551616) (hK : rdK x = nK) (hA : rdA x = nA) (hB' : rdB x = nB) (hR : rdR x = nR) (hG : rdG x = nG) (hS : rdS x = nS) (w : World) (hP : Prts w)
    (hW : ∀ w1, Prts w1 → Calls Tryd.prog 70 #[.agg #[.int .i64 (nK : Nat), .int .u64 (nA : Nat), .int .i64 (nB : Nat), .int .i64 (nR : Nat), .int .i64 (nG : Nat), .int .i64 (nS : Nat), .int .u64 (y : Nat)]] w1 fun e w' => e = .returned (.tuple #[.int .u64 (N : Nat), .int .u64 (M : Nat), .int .i64 E]) ∧ Below w1.heap.size w1 w') :
    Calls Tryd.prog 67 #[.int .u64 (x : Nat), .int .u64 (y : Nat)] w fun e w' => e = .returned (.tuple #[.agg (rdA2 E N x #[.int .i64 (nK : Nat), .int .u64 (nA : Nat), .int .i64 (nB : Nat), .int .i64 (nR : Nat), .int .i64 (nG : Nat), .int .i64 (nS : Nat), .int .u64 (y : Nat)]), .int .i64 (rdC2 E N x)]) ∧ Below w.heap.size w w' := by
  have c1 := fun w1 => number_any 0 4 0 x (by decide) hx (by rw [getV_mod (by decide)]; omega) w1
  have c2 := fun w1 => number_any 35 27 5 x (by decide) hx (by rw [getV_mod (by decide)]; omega) w1
  have c3 := fun w1 => number_any 4 6 0 x (by decide) hx (by rw [getV_mod (by decide)]; omega) w1
  have c4 := fun w1 => number_any 10 3 0 x (by decide) hx (by rw [getV_mod (by decide)]; omega) w1
  have c5 := fun w1 => number_any 13 6 0 x (by decide) hx (by rw [getV_mod (by decide)]; omega) w1
  have c6 := fun w1 => number_any 19 16 0 x (by decide) hx (by rw [getV_mod (by decide)]; omega) w1
  rw [getV_mod (by decide), show x / 2 ^ 0 % 2 ^ 4 * 2 ^ 0 = nK by rw [← hK]; unfold rdK; omega] at c1
  rw [getV_mod (by decide), show x / 2 ^ 35 % 2 ^ 27 * 2 ^ 5 = nA by rw [← hA]; unfold rdA; omega] at c2
  rw [getV_mod (by decide), show x / 2 ^ 4 % 2 ^ 6 * 2 ^ 0 = nB by rw [← hB']; unfold rdB; omega] at c3
  rw [getV_mod (by decide), show x / 2 ^ 10 % 2 ^ 3 * 2 ^ 0 = nR by rw [← hR]; unfold rdR; omega] at c4
  rw [getV_mod (by decide), show x / 2 ^ 13 % 2 ^ 6 * 2 ^ 0 = nG by rw [← hG]; unfold rdG; omega] at c5
  rw [getV_mod (by decide), show x / 2 ^ 19 % 2 ^ 16 * 2 ^ 0 = nS by rw [← hS]; unfold rdS; omega] at c6
  obtain ⟨q1, q2, q3, q4, q5, q6, q7, q8⟩ := rd_bounds x y hy
  rw [hK] at q1
  rw [hA] at q2 q3
  rw [hB'] at q4
  rw [hR] at q5
  rw [hG] at q6
  rw [hS] at q7
  have e1 : IntKind.i64.wrap (nK : Int) = (nK : Int) := by rw [IntKind.wrap_i64]; omega
  have e3 : IntKind.i64.wrap (nB : Int) = (nB : Int) := by rw [IntKind.wrap_i64]; omega
  have e4 : IntKind.i64.wrap (nR : Int) = (nR : Int) := by rw [IntKind.wrap_i64]; omega
  have e5 : IntKind.i64.wrap (nG : Int) = (nG : Int) := by rw [IntKind.wrap_i64]; omega
  have e6 : IntKind.i64.wrap (nS : Int) = (nS : Int) := by rw [IntKind.wrap_i64]; omega
  have h5 : 3 < w.heap.size ∧ 7 < w.heap.size ∧ 6 < w.heap.size ∧ 5 < w.heap.size ∧ 4 < w.heap.size ∧ 2 < w.heap.size := ⟨World.block_lt_of_cell? w _ hP.f0, World.block_lt_of_cell? w _ hP.e0, World.block_lt_of_cell? w _ hP.d0, World.block_lt_of_cell? w _ hP.c0, World.block_lt_of_cell? w _ hP.b0, World.block_lt_of_cell? w _ hP.a0⟩
  clear q1 q2 q3 q4 q5 q6 q7 q8 hK hA hB' hR hG hS
  go_enter Tryd.func67, Tryd.ntmps67
  go_upto_region 1 with fail
  have gR := heap_alloc_new w (.cells #[.int .i64 0, .int .u64 0, .int .i64 0, .int .i64 0, .int .i64 0, .int .i64 0, .int .u64 0] 33)
  have hB := below_new w (.cells #[.int .i64 0, .int .u64 0, .int .i64 0, .int .i64 0, .int .i64 0, .int .i64 0, .int .u64 0] 33)
  have hP1 := hP.alloc (.cells #[.int .i64 0, .int .u64 0, .int .i64 0, .int .i64 0, .int .i64 0, .int .i64 0, .int .u64 0] 33)
  generalize w.alloc (.cells #[.int .i64 0, .int .u64 0, .int .i64 0, .int .i64 0, .int .i64 0, .int .i64 0, .int .u64 0] 33) = W at *
  have k0 := hP1.a0
  have k1 := hP1.a1
  have k2 := hP1.a2
  have k3 := hP1.b0
  have k4 := hP1.b1
  have k5 := hP1.b2
  have k6 := hP1.c0
  have k7 := hP1.c1
  have k8 := hP1.c2
  have k9 := hP1.d0
  have k10 := hP1.d1
  have k11 := hP1.d2
  have k12 := hP1.e0
  have k13 := hP1.e1
  have k14 := hP1.e2
  have k15 := hP1.f0
  have k16 := hP1.f1
  have k17 := hP1.f2
  go_cut [6] (fun t wc => ∃ gn, t = .pointer (some ⟨gn, 0, none⟩) ∧ w.heap.size < gn ∧ Below w.heap.size w wc ∧ wc.heap[w.heap.size]? = some (.cells #[.int .i64 0, .int .u64 0, .int .i64 0, .int .i64 0, .int .i64 0, .int .i64 0, .int .u64 0] 33 (0, 0)) ∧ wc.heap[gn]? = some (.cells #[.int .i64 (nK : Nat), .int .u64 (nA : Nat), .int .i64 (nB : Nat), .int .i64 (nR : Nat), .int .i64 (nG : Nat), .int .i64 (nS : Nat), .int .u64 (y : Nat)] 33 (0, 0)))
  case first =>
    refine wp_region_noPanic ?_
    refine wp_region_held_drew (S := (fun w' => w'.cell? ⟨2, 0, none⟩ = some (.int .i64 0) ∧ w'.cell? ⟨2, 1, none⟩ = some (.int .i64 4) ∧ w'.cell? ⟨2, 2, none⟩ = some (.int .i64 0) ∧ w'.cell? ⟨4, 0, none⟩ = some (.int .i64 4) ∧ w'.cell? ⟨4, 1, none⟩ = some (.int .i64 6) ∧ w'.cell? ⟨4, 2, none⟩ = some (.int .i64 0) ∧ w'.cell? ⟨5, 0, none⟩ = some (.int .i64 10) ∧ w'.cell? ⟨5, 1, none⟩ = some (.int .i64 3) ∧ w'.cell? ⟨5, 2, none⟩ = some (.int .i64 0) ∧ w'.cell? ⟨6, 0, none⟩ = some (.int .i64 13) ∧ w'.cell? ⟨6, 1, none⟩ = some (.int .i64 6) ∧ w'.cell? ⟨6, 2, none⟩ = some (.int .i64 0) ∧ w'.cell? ⟨7, 0, none⟩ = some (.int .i64 19) ∧ w'.cell? ⟨7, 1, none⟩ = some (.int .i64 16) ∧ w'.cell? ⟨7, 2, none⟩ = some (.int .i64 0) ∧ w'.cell? ⟨3, 0, none⟩ = some (.int .i64 35) ∧ w'.cell? ⟨3, 1, none⟩ = some (.int .i64 27) ∧ w'.cell? ⟨3, 2, none⟩ = some (.int .i64 5))) (by kernel_rfl) ?_ (fun hHeld => ?_)
    · exact ⟨cell_later (Below.refl _ _).drew k0, cell_later (Below.refl _ _).drew k1, cell_later (Below.refl _ _).drew k2, cell_later (Below.refl _ _).drew k3, cell_later (Below.refl _ _).drew k4, cell_later (Below.refl _ _).drew k5, cell_later (Below.refl _ _).drew k6, cell_later (Below.refl _ _).drew k7, cell_later (Below.refl _ _).drew k8, cell_later (Below.refl _ _).drew k9, cell_later (Below.refl _ _).drew k10, cell_later (Below.refl _ _).drew k11, cell_later (Below.refl _ _).drew k12, cell_later (Below.refl _ _).drew k13, cell_later (Below.refl _ _).drew k14, cell_later (Below.refl _ _).drew k15, cell_later (Below.refl _ _).drew k16, cell_later (Below.refl _ _).drew k17⟩
    replace k0 := cell_later (Below.refl _ W).drew k0
    replace k1 := cell_later (Below.refl _ W).drew k1
    replace k2 := cell_later (Below.refl _ W).drew k2
    replace k3 := cell_later (Below.refl _ W).drew k3
    replace k4 := cell_later (Below.refl _ W).drew k4
    replace k5 := cell_later (Below.refl _ W).drew k5
    replace k6 := cell_later (Below.refl _ W).drew k6
    replace k7 := cell_later (Below.refl _ W).drew k7
    replace k8 := cell_later (Below.refl _ W).drew k8
    replace k9 := cell_later (Below.refl _ W).drew k9
    replace k10 := cell_later (Below.refl _ W).drew k10
    replace k11 := cell_later (Below.refl _ W).drew k11
    replace k12 := cell_later (Below.refl _ W).drew k12
    replace k13 := cell_later (Below.refl _ W).drew k13
    replace k14 := cell_later (Below.refl _ W).drew k14
    replace k15 := cell_later (Below.refl _ W).drew k15
    replace k16 := cell_later (Below.refl _ W).drew k16
    replace k17 := cell_later (Below.refl _ W).drew k17
    replace gR := block_later (Below.refl _ W).drew gR
    replace hB := below_tr hB (Below.refl _ W).drew
    generalize W.drew = Wd at *
    refine take_at (i := 0) (v := ?_) 10 rfl rfl (by kernel_rfl) (by kernel_rfl) (by kernel_rfl) (fun _ _ _ h => h) (Or.inl ⟨by rfl, ?_⟩) (by assumption) ?_
    rotate_left
    · (intro w' hSw; (try dsimp only at hSw); go_simp; all_goals with_reducible rfl)
    try simp only [Act.put, List.setIfInBounds_toArray, List.set_cons_zero, List.set_cons_succ]
    refine take_at (i := 1) (v := ?_) 11 rfl rfl (by kernel_rfl) (by kernel_rfl) (by kernel_rfl) (fun _ _ _ h => h) (Or.inl ⟨by rfl, ?_⟩) (by assumption) ?_
    rotate_left
    · (intro w' hSw; (try dsimp only at hSw); go_simp; all_goals with_reducible rfl)
    try simp only [Act.put, List.setIfInBounds_toArray, List.set_cons_zero, List.set_cons_succ]
    refine take_at (i := 4) (v := ?_) 14 rfl rfl (by kernel_rfl) (by kernel_rfl) (by kernel_rfl) (fun _ _ _ h => h) (Or.inl ⟨by rfl, ?_⟩) (by assumption) ?_
    rotate_left
    · (intro w' hSw; (try dsimp only at hSw); go_simp; all_goals with_reducible rfl)
    try simp only [Act.put, List.setIfInBounds_toArray, List.set_cons_zero, List.set_cons_succ]
    refine take_at (i := 5) (v := ?_) 15 rfl rfl (by kernel_rfl) (by kernel_rfl) (by kernel_rfl) (fun _ _ _ h => h) (Or.inl ⟨by rfl, ?_⟩) (by assumption) ?_
    rotate_left
    · (intro w' hSw; (try dsimp only at hSw); go_simp; all_goals with_reducible rfl)
    try simp only [Act.put, List.setIfInBounds_toArray, List.set_cons_zero, List.set_cons_succ]
    refine take_at (i := 7) (v := ?_) 17 rfl rfl (by kernel_rfl) (by kernel_rfl) (by kernel_rfl) (fun _ _ _ h => h) (Or.inl ⟨by rfl, ?_⟩) (by assumption) ?_
    rotate_left
    · (intro w' hSw; (try dsimp only at hSw); go_simp; all_goals with_reducible rfl)
    try simp only [Act.put, List.setIfInBounds_toArray, List.set_cons_zero, List.set_cons_succ]
    refine take_at (i := 8) (v := ?_) 18 rfl rfl (by kernel_rfl) (by kernel_rfl) (by kernel_rfl) (fun _ _ _ h => h) (Or.inl ⟨by rfl, ?_⟩) (by assumption) ?_
    rotate_left
    · (intro w' hSw; (try dsimp only at hSw); go_simp; all_goals with_reducible rfl)
    try simp only [Act.put, List.setIfInBounds_toArray, List.set_cons_zero, List.set_cons_succ]
    refine take_at (i := 11) (v := ?_) 21 rfl rfl (by kernel_rfl) (by kernel_rfl) (by kernel_rfl) (fun _ _ _ h => h) (Or.inl ⟨by rfl, ?_⟩) (by assumption) ?_
    rotate_left
    · (intro w' hSw; (try dsimp only at hSw); go_simp; all_goals with_reducible rfl)
    try simp only [Act.put, List.setIfInBounds_toArray, List.set_cons_zero, List.set_cons_succ]
    refine take_at (i := 12) (v := ?_) 22 rfl rfl (by kernel_rfl) (by kernel_rfl) (by kernel_rfl) (fun _ _ _ h => h) (Or.inl ⟨by rfl, ?_⟩) (by assumption) ?_
    rotate_left
    · (intro w' hSw; (try dsimp only at hSw); go_simp; all_goals with_reducible rfl)
    try simp only [Act.put, List.setIfInBounds_toArray, List.set_cons_zero, List.set_cons_succ]
    refine take_at (i := 15) (v := ?_) 25 rfl rfl (by kernel_rfl) (by kernel_rfl) (by kernel_rfl) (fun _ _ _ h => h) (Or.inl ⟨by rfl, ?_⟩) (by assumption) ?_
    rotate_left
    · (intro w' hSw; (try dsimp only at hSw); go_simp; all_goals with_reducible rfl)
    try simp only [Act.put, List.setIfInBounds_toArray, List.set_cons_zero, List.set_cons_succ]
    refine take_at (i := 16) (v := ?_) 26 rfl rfl (by kernel_rfl) (by kernel_rfl) (by kernel_rfl) (fun _ _ _ h => h) (Or.inl ⟨by rfl, ?_⟩) (by assumption) ?_
    rotate_left
    · (intro w' hSw; (try dsimp only at hSw); go_simp; all_goals with_reducible rfl)
    try simp only [Act.put, List.setIfInBounds_toArray, List.set_cons_zero, List.set_cons_succ]
    refine take_at (i := 19) (v := ?_) 29 rfl rfl (by kernel_rfl) (by kernel_rfl) (by kernel_rfl) (fun _ _ _ h => h) (Or.inl ⟨by rfl, ?_⟩) (by assumption) ?_
    rotate_left
    · (intro w' hSw; (try dsimp only at hSw); go_simp; all_goals with_reducible rfl)
    try simp only [Act.put, List.setIfInBounds_toArray, List.set_cons_zero, List.set_cons_succ]
    refine take_at (i := 20) (v := ?_) 30 rfl rfl (by kernel_rfl) (by kernel_rfl) (by kernel_rfl) (fun _ _ _ h => h) (Or.inl ⟨by rfl, ?_⟩) (by assumption) ?_
    rotate_left
    · (intro w' hSw; (try dsimp only at hSw); go_simp; all_goals with_reducible rfl)
    try simp only [Act.put, List.setIfInBounds_toArray, List.set_cons_zero, List.set_cons_succ]
    refine take_at (i := 23) (v := ?_) 33 rfl rfl (by kernel_rfl) (by kernel_rfl) (by kernel_rfl) (fun _ _ _ h => h) (Or.inl ⟨by rfl, ?_⟩) (by assumption) ?_
    rotate_left
    · (intro w' hSw; (try dsimp only at hSw); go_simp; all_goals with_reducible rfl)
    try simp only [Act.put, List.setIfInBounds_toArray, List.set_cons_zero, List.set_cons_succ]
    refine wpAnyH_ready (rs := [2, 25]) (by kernel_rfl) (by simp) ?_
    refine AllReadyH.cons rfl (fun K hK => ?_) (AllReadyH.cons rfl (fun K hK => ?_) AllReadyH.nil)
    · go_simp
      refine (c1 _).mono ?_
      rintro e v1 ⟨rfl, hb⟩
      go_wp2_with fail
      replace k0 := cell_later hb k0
      replace k1 := cell_later hb k1
      replace k2 := cell_later hb k2
      replace k3 := cell_later hb k3
      replace k4 := cell_later hb k4
      replace k5 := cell_later hb k5
      replace k6 := cell_later hb k6
      replace k7 := cell_later hb k7
      replace k8 := cell_later hb k8
      replace k9 := cell_later hb k9
      replace k10 := cell_later hb k10
      replace k11 := cell_later hb k11
      replace k12 := cell_later hb k12
      replace k13 := cell_later hb k13
      replace k14 := cell_later hb k14
      replace k15 := cell_later hb k15
      replace k16 := cell_later hb k16
      replace k17 := cell_later hb k17
      replace gR := block_later hb gR
      replace hB := below_tr hB hb
      clear hb
      refine hK.out _ _ ⟨k0, k1, k2, k3, k4, k5, k6, k7, k8, k9, k10, k11, k12, k13, k14, k15, k16, k17⟩ (fun hHeldc1 => ?_)
      clear hK
      try simp only [Act.put, List.setIfInBounds_toArray, List.set_cons_zero, List.set_cons_succ]
      refine take_at (i := 3) (v := ?_) 13 rfl rfl (by kernel_rfl) (by kernel_rfl) (by kernel_rfl) (fun _ _ _ h => h) (Or.inl ⟨by rfl, ?_⟩) (by assumption) ?_
      rotate_left
      · (intro w' hSw; (try dsimp only at hSw); go_simp; all_goals with_reducible rfl)
      try simp only [Act.put, List.setIfInBounds_toArray, List.set_cons_zero, List.set_cons_succ]
      refine wpAnyH_ready (rs := [6, 25]) (by kernel_rfl) (by simp) ?_
      refine AllReadyH.cons rfl (fun K hK => ?_) (AllReadyH.cons rfl (fun K hK => ?_) AllReadyH.nil)
      · go_simp
        refine (c2 _).mono ?_
        rintro e v2 ⟨rfl, hb⟩
        go_wp2_with fail
        replace k0 := cell_later hb k0
        replace k1 := cell_later hb k1
        replace k2 := cell_later hb k2
        replace k3 := cell_later hb k3
        replace k4 := cell_later hb k4
        replace k5 := cell_later hb k5
        replace k6 := cell_later hb k6
        replace k7 := cell_later hb k7
        replace k8 := cell_later hb k8
        replace k9 := cell_later hb k9
        replace k10 := cell_later hb k10
        replace k11 := cell_later hb k11
        replace k12 := cell_later hb k12
        replace k13 := cell_later hb k13
        replace k14 := cell_later hb k14
        replace k15 := cell_later hb k15
        replace k16 := cell_later hb k16
        replace k17 := cell_later hb k17
        replace gR := block_later hb gR
        replace hB := below_tr hB hb
        clear hb
        refine hK.out _ _ ⟨k0, k1, k2, k3, k4, k5, k6, k7, k8, k9, k10, k11, k12, k13, k14, k15, k16, k17⟩ (fun hHeldc2 => ?_)
        clear hK
        try simp only [Act.put, List.setIfInBounds_toArray, List.set_cons_zero, List.set_cons_succ]
        refine wpAnyH_ready (rs := [9, 25]) (by kernel_rfl) (by simp) ?_
        refine AllReadyH.cons rfl (fun K hK => ?_) (AllReadyH.cons rfl (fun K hK => ?_) AllReadyH.nil)
        · go_simp
          refine (c3 _).mono ?_
          rintro e v3 ⟨rfl, hb⟩
          go_wp2_with fail
          replace k0 := cell_later hb k0
          replace k1 := cell_later hb k1
          replace k2 := cell_later hb k2
          replace k3 := cell_later hb k3
          replace k4 := cell_later hb k4
          replace k5 := cell_later hb k5
          replace k6 := cell_later hb k6
          replace k7 := cell_later hb k7
          replace k8 := cell_later hb k8
          replace k9 := cell_later hb k9
          replace k10 := cell_later hb k10
          replace k11 := cell_later hb k11
          replace k12 := cell_later hb k12
          replace k13 := cell_later hb k13
          replace k14 := cell_later hb k14
          replace k15 := cell_later hb k15
          replace k16 := cell_later hb k16
          replace k17 := cell_later hb k17
          replace gR := block_later hb gR
          replace hB := below_tr hB hb
          clear hb
          refine hK.out _ _ ⟨k0, k1, k2, k3, k4, k5, k6, k7, k8, k9, k10, k11, k12, k13, k14, k15, k16, k17⟩ (fun hHeldc3 => ?_)
          clear hK
          try simp only [Act.put, List.setIfInBounds_toArray, List.set_cons_zero, List.set_cons_succ]
          refine take_at (i := 10) (v := ?_) 20 rfl rfl (by kernel_rfl) (by kernel_rfl) (by kernel_rfl) (fun _ _ _ h => h) (Or.inl ⟨by rfl, ?_⟩) (by assumption) ?_
          rotate_left
          · (intro w' hSw; (try dsimp only at hSw); go_simp; all_goals with_reducible rfl)
          try simp only [Act.put, List.setIfInBounds_toArray, List.set_cons_zero, List.set_cons_succ]
          refine wpAnyH_ready (rs := [13, 25]) (by kernel_rfl) (by simp) ?_
          refine AllReadyH.cons rfl (fun K hK => ?_) (AllReadyH.cons rfl (fun K hK => ?_) AllReadyH.nil)
          · go_simp
            refine (c4 _).mono ?_
            rintro e v4 ⟨rfl, hb⟩
            go_wp2_with fail
            replace k0 := cell_later hb k0
            replace k1 := cell_later hb k1
            replace k2 := cell_later hb k2
            replace k3 := cell_later hb k3
            replace k4 := cell_later hb k4
            replace k5 := cell_later hb k5
            replace k6 := cell_later hb k6
            replace k7 := cell_later hb k7
            replace k8 := cell_later hb k8
            replace k9 := cell_later hb k9
            replace k10 := cell_later hb k10
            replace k11 := cell_later hb k11
            replace k12 := cell_later hb k12
            replace k13 := cell_later hb k13
            replace k14 := cell_later hb k14
            replace k15 := cell_later hb k15
            replace k16 := cell_later hb k16
            replace k17 := cell_later hb k17
            replace gR := block_later hb gR
            replace hB := below_tr hB hb
            clear hb
            refine hK.out _ _ ⟨k0, k1, k2, k3, k4, k5, k6, k7, k8, k9, k10, k11, k12, k13, k14, k15, k16, k17⟩ (fun hHeldc4 => ?_)
            clear hK
            try simp only [Act.put, List.setIfInBounds_toArray, List.set_cons_zero, List.set_cons_succ]
            refine take_at (i := 14) (v := ?_) 24 rfl rfl (by kernel_rfl) (by kernel_rfl) (by kernel_rfl) (fun _ _ _ h => h) (Or.inl ⟨by rfl, ?_⟩) (by assumption) ?_
            rotate_left
            · (intro w' hSw; (try dsimp only at hSw); go_simp; all_goals with_reducible rfl)
            try simp only [Act.put, List.setIfInBounds_toArray, List.set_cons_zero, List.set_cons_succ]
            refine wpAnyH_ready (rs := [17, 25]) (by kernel_rfl) (by simp) ?_
            refine AllReadyH.cons rfl (fun K hK => ?_) (AllReadyH.cons rfl (fun K hK => ?_) AllReadyH.nil)
            · go_simp
              refine (c5 _).mono ?_
              rintro e v5 ⟨rfl, hb⟩
              go_wp2_with fail
              replace k0 := cell_later hb k0
              replace k1 := cell_later hb k1
              replace k2 := cell_later hb k2
              replace k3 := cell_later hb k3
              replace k4 := cell_later hb k4
              replace k5 := cell_later hb k5
              replace k6 := cell_later hb k6
              replace k7 := cell_later hb k7
              replace k8 := cell_later hb k8
              replace k9 := cell_later hb k9
              replace k10 := cell_later hb k10
              replace k11 := cell_later hb k11
              replace k12 := cell_later hb k12
              replace k13 := cell_later hb k13
              replace k14 := cell_later hb k14
              replace k15 := cell_later hb k15
              replace k16 := cell_later hb k16
              replace k17 := cell_later hb k17
              replace gR := block_later hb gR
              replace hB := below_tr hB hb
              clear hb
              refine hK.out _ _ ⟨k0, k1, k2, k3, k4, k5, k6, k7, k8, k9, k10, k11, k12, k13, k14, k15, k16, k17⟩ (fun hHeldc5 => ?_)
              clear hK
              try simp only [Act.put, List.setIfInBounds_toArray, List.set_cons_zero, List.set_cons_succ]
              refine take_at (i := 18) (v := ?_) 28 rfl rfl (by kernel_rfl) (by kernel_rfl) (by kernel_rfl) (fun _ _ _ h => h) (Or.inl ⟨by rfl, ?_⟩) (by assumption) ?_
              rotate_left
              · (intro w' hSw; (try dsimp only at hSw); go_simp; all_goals with_reducible rfl)
              try simp only [Act.put, List.setIfInBounds_toArray, List.set_cons_zero, List.set_cons_succ]
              refine wpAnyH_ready (rs := [21, 25]) (by kernel_rfl) (by simp) ?_
              refine AllReadyH.cons rfl (fun K hK => ?_) (AllReadyH.cons rfl (fun K hK => ?_) AllReadyH.nil)
              · go_simp
                refine (c6 _).mono ?_
                rintro e v6 ⟨rfl, hb⟩
                go_wp2_with fail
                replace k0 := cell_later hb k0
                replace k1 := cell_later hb k1
                replace k2 := cell_later hb k2
                replace k3 := cell_later hb k3
                replace k4 := cell_later hb k4
                replace k5 := cell_later hb k5
                replace k6 := cell_later hb k6
                replace k7 := cell_later hb k7
                replace k8 := cell_later hb k8
                replace k9 := cell_later hb k9
                replace k10 := cell_later hb k10
                replace k11 := cell_later hb k11
                replace k12 := cell_later hb k12
                replace k13 := cell_later hb k13
                replace k14 := cell_later hb k14
                replace k15 := cell_later hb k15
                replace k16 := cell_later hb k16
                replace k17 := cell_later hb k17
                replace gR := block_later hb gR
                replace hB := below_tr hB hb
                clear hb
                refine hK.out _ _ ⟨k0, k1, k2, k3, k4, k5, k6, k7, k8, k9, k10, k11, k12, k13, k14, k15, k16, k17⟩ (fun hHeldc6 => ?_)
                clear hK
                try simp only [Act.put, List.setIfInBounds_toArray, List.set_cons_zero, List.set_cons_succ]
                refine take_at (i := 22) (v := ?_) 32 rfl rfl (by kernel_rfl) (by kernel_rfl) (by kernel_rfl) (fun _ _ _ h => h) (Or.inl ⟨by rfl, ?_⟩) (by assumption) ?_
                rotate_left
                · (intro w' hSw; (try dsimp only at hSw); go_simp; all_goals with_reducible rfl)
                try simp only [Act.put, List.setIfInBounds_toArray, List.set_cons_zero, List.set_cons_succ]
                refine take_at (i := 24) (v := ?_) 34 rfl rfl (by kernel_rfl) (by kernel_rfl) (by kernel_rfl) (fun _ _ _ h => h) (Or.inl ⟨by rfl, ?_⟩) (by assumption) ?_
                rotate_left
                · (intro w' hSw; (try dsimp only at hSw); go_simp; all_goals with_reducible rfl)
                try simp only [Act.put, List.setIfInBounds_toArray, List.set_cons_zero, List.set_cons_succ]
                refine wpAnyH_ready (rs := [25]) (by kernel_rfl) (by simp) ?_
                refine AllReadyH.cons rfl (fun K hK => ?_) AllReadyH.nil
                go_simp
                have gN := heap_alloc_new v6 (.cells #[.int .i64 0, .int .u64 0, .int .i64 0, .int .i64 0, .int .i64 0, .int .i64 0, .int .u64 0] 33)
                have hgn : w.heap.size < v6.heap.size := block_lt gR
                replace k0 := cell_alloc (o := .cells #[.int .i64 0, .int .u64 0, .int .i64 0, .int .i64 0, .int .i64 0, .int .i64 0, .int .u64 0] 33) k0
                replace k1 := cell_alloc (o := .cells #[.int .i64 0, .int .u64 0, .int .i64 0, .int .i64 0, .int .i64 0, .int .i64 0, .int .u64 0] 33) k1
                replace k2 := cell_alloc (o := .cells #[.int .i64 0, .int .u64 0, .int .i64 0, .int .i64 0, .int .i64 0, .int .i64 0, .int .u64 0] 33) k2
                replace k3 := cell_alloc (o := .cells #[.int .i64 0, .int .u64 0, .int .i64 0, .int .i64 0, .int .i64 0, .int .i64 0, .int .u64 0] 33) k3
                replace k4 := cell_alloc (o := .cells #[.int .i64 0, .int .u64 0, .int .i64 0, .int .i64 0, .int .i64 0, .int .i64 0, .int .u64 0] 33) k4
                replace k5 := cell_alloc (o := .cells #[.int .i64 0, .int .u64 0, .int .i64 0, .int .i64 0, .int .i64 0, .int .i64 0, .int .u64 0] 33) k5
                replace k6 := cell_alloc (o := .cells #[.int .i64 0, .int .u64 0, .int .i64 0, .int .i64 0, .int .i64 0, .int .i64 0, .int .u64 0] 33) k6
                replace k7 := cell_alloc (o := .cells #[.int .i64 0, .int .u64 0, .int .i64 0, .int .i64 0, .int .i64 0, .int .i64 0, .int .u64 0] 33) k7
                replace k8 := cell_alloc (o := .cells #[.int .i64 0, .int .u64 0, .int .i64 0, .int .i64 0, .int .i64 0, .int .i64 0, .int .u64 0] 33) k8
                replace k9 := cell_alloc (o := .cells #[.int .i64 0, .int .u64 0, .int .i64 0, .int .i64 0, .int .i64 0, .int .i64 0, .int .u64 0] 33) k9
                replace k10 := cell_alloc (o := .cells #[.int .i64 0, .int .u64 0, .int .i64 0, .int .i64 0, .int .i64 0, .int .i64 0, .int .u64 0] 33) k10
                replace k11 := cell_alloc (o := .cells #[.int .i64 0, .int .u64 0, .int .i64 0, .int .i64 0, .int .i64 0, .int .i64 0, .int .u64 0] 33) k11
                replace k12 := cell_alloc (o := .cells #[.int .i64 0, .int .u64 0, .int .i64 0, .int .i64 0, .int .i64 0, .int .i64 0, .int .u64 0] 33) k12
                replace k13 := cell_alloc (o := .cells #[.int .i64 0, .int .u64 0, .int .i64 0, .int .i64 0, .int .i64 0, .int .i64 0, .int .u64 0] 33) k13
                replace k14 := cell_alloc (o := .cells #[.int .i64 0, .int .u64 0, .int .i64 0, .int .i64 0, .int .i64 0, .int .i64 0, .int .u64 0] 33) k14
                replace k15 := cell_alloc (o := .cells #[.int .i64 0, .int .u64 0, .int .i64 0, .int .i64 0, .int .i64 0, .int .i64 0, .int .u64 0] 33) k15
                replace k16 := cell_alloc (o := .cells #[.int .i64 0, .int .u64 0, .int .i64 0, .int .i64 0, .int .i64 0, .int .i64 0, .int .u64 0] 33) k16
                replace k17 := cell_alloc (o := .cells #[.int .i64 0, .int .u64 0, .int .i64 0, .int .i64 0, .int .i64 0, .int .i64 0, .int .u64 0] 33) k17
                replace gR := block_later (below_new _ (.cells #[.int .i64 0, .int .u64 0, .int .i64 0, .int .i64 0, .int .i64 0, .int .i64 0, .int .u64 0] 33)) gR
                replace hB := below_tr hB (below_new _ (.cells #[.int .i64 0, .int .u64 0, .int .i64 0, .int .i64 0, .int .i64 0, .int .i64 0, .int .u64 0] 33))
                generalize v6.heap.size = gn at *
                generalize v6.alloc (.cells #[.int .i64 0, .int .u64 0, .int .i64 0, .int .i64 0, .int .i64 0, .int .i64 0, .int .u64 0] 33) = va at *
                refine hK.out _ _ ⟨k0, k1, k2, k3, k4, k5, k6, k7, k8, k9, k10, k11, k12, k13, k14, k15, k16, k17⟩ (fun hHelda => ?_)
                clear hK
                try simp only [Act.put, List.setIfInBounds_toArray, List.set_cons_zero, List.set_cons_succ]
                refine wpAnyH_ready (rs := [26]) (by kernel_rfl) (by simp) ?_
                refine AllReadyH.cons rfl (fun K hK => ?_) AllReadyH.nil
                refine step_store_seg rfl rfl 33 _ _ rfl (gn) 0 _ #[.int .i64 (nK : Nat), .int .u64 (nA : Nat), .int .i64 (nB : Nat), .int .i64 (nR : Nat), .int .i64 (nG : Nat), .int .i64 (nS : Nat), .int .u64 (y : Nat)] rfl rfl rfl 33 _ gN (show 0 + 7 ≤ 7 by decide) info7 (by simp [Value.oneCell']) #[.int .i64 (nK : Nat), .int .u64 (nA : Nat), .int .i64 (nB : Nat), .int .i64 (nR : Nat), .int .i64 (nG : Nat), .int .i64 (nS : Nat), .int .u64 (y : Nat)] rfl ?_
                intro wsz hrq htq
                replace k0 := turn_cell htq (by omega) k0
                replace k1 := turn_cell htq (by omega) k1
                replace k2 := turn_cell htq (by omega) k2
                replace k3 := turn_cell htq (by omega) k3
                replace k4 := turn_cell htq (by omega) k4
                replace k5 := turn_cell htq (by omega) k5
                replace k6 := turn_cell htq (by omega) k6
                replace k7 := turn_cell htq (by omega) k7
                replace k8 := turn_cell htq (by omega) k8
                replace k9 := turn_cell htq (by omega) k9
                replace k10 := turn_cell htq (by omega) k10
                replace k11 := turn_cell htq (by omega) k11
                replace k12 := turn_cell htq (by omega) k12
                replace k13 := turn_cell htq (by omega) k13
                replace k14 := turn_cell htq (by omega) k14
                replace k15 := turn_cell htq (by omega) k15
                replace k16 := turn_cell htq (by omega) k16
                replace k17 := turn_cell htq (by omega) k17
                replace gR := block_turn htq gR (by omega)
                replace gN := hrq
                replace hB := below_turn hB htq (by omega)
                refine hK.out _ _ ⟨k0, k1, k2, k3, k4, k5, k6, k7, k8, k9, k10, k11, k12, k13, k14, k15, k16, k17⟩ (fun hHeldsz => ?_)
                clear hK hrq
                try simp only [Act.put, List.setIfInBounds_toArray, List.set_cons_zero, List.set_cons_succ]
                refine wpAnyH_done (by kernel_rfl) ?_ _
                refine NoPanic.normal ?_
                go_wp2_with fail
                go_meet
                exact ⟨gn, rfl, hgn, hB, gR, gN⟩
              · go_simp
                have gN := heap_alloc_new v5 (.cells #[.int .i64 0, .int .u64 0, .int .i64 0, .int .i64 0, .int .i64 0, .int .i64 0, .int .u64 0] 33)
                have hgn : w.heap.size < v5.heap.size := block_lt gR
                replace k0 := cell_alloc (o := .cells #[.int .i64 0, .int .u64 0, .int .i64 0, .int .i64 0, .int .i64 0, .int .i64 0, .int .u64 0] 33) k0
                replace k1 := cell_alloc (o := .cells #[.int .i64 0, .int .u64 0, .int .i64 0, .int .i64 0, .int .i64 0, .int .i64 0, .int .u64 0] 33) k1
                replace k2 := cell_alloc (o := .cells #[.int .i64 0, .int .u64 0, .int .i64 0, .int .i64 0, .int .i64 0, .int .i64 0, .int .u64 0] 33) k2
                replace k3 := cell_alloc (o := .cells #[.int .i64 0, .int .u64 0, .int .i64 0, .int .i64 0, .int .i64 0, .int .i64 0, .int .u64 0] 33) k3
                replace k4 := cell_alloc (o := .cells #[.int .i64 0, .int .u64 0, .int .i64 0, .int .i64 0, .int .i64 0, .int .i64 0, .int .u64 0] 33) k4
                replace k5 := cell_alloc (o := .cells #[.int .i64 0, .int .u64 0, .int .i64 0, .int .i64 0, .int .i64 0, .int .i64 0, .int .u64 0] 33) k5
                replace k6 := cell_alloc (o := .cells #[.int .i64 0, .int .u64 0, .int .i64 0, .int .i64 0, .int .i64 0, .int .i64 0, .int .u64 0] 33) k6
                replace k7 := cell_alloc (o := .cells #[.int .i64 0, .int .u64 0, .int .i64 0, .int .i64 0, .int .i64 0, .int .i64 0, .int .u64 0] 33) k7
                replace k8 := cell_alloc (o := .cells #[.int .i64 0, .int .u64 0, .int .i64 0, .int .i64 0, .int .i64 0, .int .i64 0, .int .u64 0] 33) k8
                replace k9 := cell_alloc (o := .cells #[.int .i64 0, .int .u64 0, .int .i64 0, .int .i64 0, .int .i64 0, .int .i64 0, .int .u64 0] 33) k9
                replace k10 := cell_alloc (o := .cells #[.int .i64 0, .int .u64 0, .int .i64 0, .int .i64 0, .int .i64 0, .int .i64 0, .int .u64 0] 33) k10
                replace k11 := cell_alloc (o := .cells #[.int .i64 0, .int .u64 0, .int .i64 0, .int .i64 0, .int .i64 0, .int .i64 0, .int .u64 0] 33) k11
                replace k12 := cell_alloc (o := .cells #[.int .i64 0, .int .u64 0, .int .i64 0, .int .i64 0, .int .i64 0, .int .i64 0, .int .u64 0] 33) k12
                replace k13 := cell_alloc (o := .cells #[.int .i64 0, .int .u64 0, .int .i64 0, .int .i64 0, .int .i64 0, .int .i64 0, .int .u64 0] 33) k13
                replace k14 := cell_alloc (o := .cells #[.int .i64 0, .int .u64 0, .int .i64 0, .int .i64 0, .int .i64 0, .int .i64 0, .int .u64 0] 33) k14
                replace k15 := cell_alloc (o := .cells #[.int .i64 0, .int .u64 0, .int .i64 0, .int .i64 0, .int .i64 0, .int .i64 0, .int .u64 0] 33) k15
                replace k16 := cell_alloc (o := .cells #[.int .i64 0, .int .u64 0, .int .i64 0, .int .i64 0, .int .i64 0, .int .i64 0, .int .u64 0] 33) k16
                replace k17 := cell_alloc (o := .cells #[.int .i64 0, .int .u64 0, .int .i64 0, .int .i64 0, .int .i64 0, .int .i64 0, .int .u64 0] 33) k17
                replace gR := block_later (below_new _ (.cells #[.int .i64 0, .int .u64 0, .int .i64 0, .int .i64 0, .int .i64 0, .int .i64 0, .int .u64 0] 33)) gR
                replace hB := below_tr hB (below_new _ (.cells #[.int .i64 0, .int .u64 0, .int .i64 0, .int .i64 0, .int .i64 0, .int .i64 0, .int .u64 0] 33))
                generalize v5.heap.size = gn at *
                generalize v5.alloc (.cells #[.int .i64 0, .int .u64 0, .int .i64 0, .int .i64 0, .int .i64 0, .int .i64 0, .int .u64 0] 33) = va at *
                refine hK.out _ _ ⟨k0, k1, k2, k3, k4, k5, k6, k7, k8, k9, k10, k11, k12, k13, k14, k15, k16, k17⟩ (fun hHelda => ?_)
                clear hK
                try simp only [Act.put, List.setIfInBounds_toArray, List.set_cons_zero, List.set_cons_succ]
                refine wpAnyH_ready (rs := [21]) (by kernel_rfl) (by simp) ?_
                refine AllReadyH.cons rfl (fun K hK => ?_) AllReadyH.nil
                go_simp
                refine (c6 _).mono ?_
                rintro e v6 ⟨rfl, hb⟩
                go_wp2_with fail
                replace k0 := cell_later hb k0
                replace k1 := cell_later hb k1
                replace k2 := cell_later hb k2
                replace k3 := cell_later hb k3
                replace k4 := cell_later hb k4
                replace k5 := cell_later hb k5
                replace k6 := cell_later hb k6
                replace k7 := cell_later hb k7
                replace k8 := cell_later hb k8
                replace k9 := cell_later hb k9
                replace k10 := cell_later hb k10
                replace k11 := cell_later hb k11
                replace k12 := cell_later hb k12
                replace k13 := cell_later hb k13
                replace k14 := cell_later hb k14
                replace k15 := cell_later hb k15
                replace k16 := cell_later hb k16
                replace k17 := cell_later hb k17
                replace gR := block_later hb gR
                replace gN := block_later hb gN
                replace hB := below_tr hB hb
                clear hb
                refine hK.out _ _ ⟨k0, k1, k2, k3, k4, k5, k6, k7, k8, k9, k10, k11, k12, k13, k14, k15, k16, k17⟩ (fun hHeldc6 => ?_)
                clear hK
                try simp only [Act.put, List.setIfInBounds_toArray, List.set_cons_zero, List.set_cons_succ]
                refine take_at (i := 22) (v := ?_) 32 rfl rfl (by kernel_rfl) (by kernel_rfl) (by kernel_rfl) (fun _ _ _ h => h) (Or.inl ⟨by rfl, ?_⟩) (by assumption) ?_
                rotate_left
                · (intro w' hSw; (try dsimp only at hSw); go_simp; all_goals with_reducible rfl)
                try simp only [Act.put, List.setIfInBounds_toArray, List.set_cons_zero, List.set_cons_succ]
                refine take_at (i := 24) (v := ?_) 34 rfl rfl (by kernel_rfl) (by kernel_rfl) (by kernel_rfl) (fun _ _ _ h => h) (Or.inl ⟨by rfl, ?_⟩) (by assumption) ?_
                rotate_left
                · (intro w' hSw; (try dsimp only at hSw); go_simp; all_goals with_reducible rfl)
                try simp only [Act.put, List.setIfInBounds_toArray, List.set_cons_zero, List.set_cons_succ]
                refine wpAnyH_ready (rs := [26]) (by kernel_rfl) (by simp) ?_
                refine AllReadyH.cons rfl (fun K hK => ?_) AllReadyH.nil
                refine step_store_seg rfl rfl 33 _ _ rfl (gn) 0 _ #[.int .i64 (nK : Nat), .int .u64 (nA : Nat), .int .i64 (nB : Nat), .int .i64 (nR : Nat), .int .i64 (nG : Nat), .int .i64 (nS : Nat), .int .u64 (y : Nat)] rfl rfl rfl 33 _ gN (show 0 + 7 ≤ 7 by decide) info7 (by simp [Value.oneCell']) #[.int .i64 (nK : Nat), .int .u64 (nA : Nat), .int .i64 (nB : Nat), .int .i64 (nR : Nat), .int .i64 (nG : Nat), .int .i64 (nS : Nat), .int .u64 (y : Nat)] rfl ?_
                intro wsz hrq htq
                replace k0 := turn_cell htq (by omega) k0
                replace k1 := turn_cell htq (by omega) k1
                replace k2 := turn_cell htq (by omega) k2
                replace k3 := turn_cell htq (by omega) k3
                replace k4 := turn_cell htq (by omega) k4
                replace k5 := turn_cell htq (by omega) k5
                replace k6 := turn_cell htq (by omega) k6
                replace k7 := turn_cell htq (by omega) k7
                replace k8 := turn_cell htq (by omega) k8
                replace k9 := turn_cell htq (by omega) k9
                replace k10 := turn_cell htq (by omega) k10
                replace k11 := turn_cell htq (by omega) k11
                replace k12 := turn_cell htq (by omega) k12
                replace k13 := turn_cell htq (by omega) k13
                replace k14 := turn_cell htq (by omega) k14
                replace k15 := turn_cell htq (by omega) k15
                replace k16 := turn_cell htq (by omega) k16
                replace k17 := turn_cell htq (by omega) k17
                replace gR := block_turn htq gR (by omega)
                replace gN := hrq
                replace hB := below_turn hB htq (by omega)
                refine hK.out _ _ ⟨k0, k1, k2, k3, k4, k5, k6, k7, k8, k9, k10, k11, k12, k13, k14, k15, k16, k17⟩ (fun hHeldsz => ?_)
                clear hK hrq
                try simp only [Act.put, List.setIfInBounds_toArray, List.set_cons_zero, List.set_cons_succ]
                refine wpAnyH_done (by kernel_rfl) ?_ _
                refine NoPanic.normal ?_
                go_wp2_with fail
                go_meet
                exact ⟨gn, rfl, hgn, hB, gR, gN⟩
            · go_simp
              have gN := heap_alloc_new v4 (.cells #[.int .i64 0, .int .u64 0, .int .i64 0, .int .i64 0, .int .i64 0, .int .i64 0, .int .u64 0] 33)
              have hgn : w.heap.size < v4.heap.size := block_lt gR
              replace k0 := cell_alloc (o := .cells #[.int .i64 0, .int .u64 0, .int .i64 0, .int .i64 0, .int .i64 0, .int .i64 0, .int .u64 0] 33) k0
              replace k1 := cell_alloc (o := .cells #[.int .i64 0, .int .u64 0, .int .i64 0, .int .i64 0, .int .i64 0, .int .i64 0, .int .u64 0] 33) k1
              replace k2 := cell_alloc (o := .cells #[.int .i64 0, .int .u64 0, .int .i64 0, .int .i64 0, .int .i64 0, .int .i64 0, .int .u64 0] 33) k2
              replace k3 := cell_alloc (o := .cells #[.int .i64 0, .int .u64 0, .int .i64 0, .int .i64 0, .int .i64 0, .int .i64 0, .int .u64 0] 33) k3
              replace k4 := cell_alloc (o := .cells #[.int .i64 0, .int .u64 0, .int .i64 0, .int .i64 0, .int .i64 0, .int .i64 0, .int .u64 0] 33) k4
              replace k5 := cell_alloc (o := .cells #[.int .i64 0, .int .u64 0, .int .i64 0, .int .i64 0, .int .i64 0, .int .i64 0, .int .u64 0] 33) k5
              replace k6 := cell_alloc (o := .cells #[.int .i64 0, .int .u64 0, .int .i64 0, .int .i64 0, .int .i64 0, .int .i64 0, .int .u64 0] 33) k6
              replace k7 := cell_alloc (o := .cells #[.int .i64 0, .int .u64 0, .int .i64 0, .int .i64 0, .int .i64 0, .int .i64 0, .int .u64 0] 33) k7
              replace k8 := cell_alloc (o := .cells #[.int .i64 0, .int .u64 0, .int .i64 0, .int .i64 0, .int .i64 0, .int .i64 0, .int .u64 0] 33) k8
              replace k9 := cell_alloc (o := .cells #[.int .i64 0, .int .u64 0, .int .i64 0, .int .i64 0, .int .i64 0, .int .i64 0, .int .u64 0] 33) k9
              replace k10 := cell_alloc (o := .cells #[.int .i64 0, .int .u64 0, .int .i64 0, .int .i64 0, .int .i64 0, .int .i64 0, .int .u64 0] 33) k10
              replace k11 := cell_alloc (o := .cells #[.int .i64 0, .int .u64 0, .int .i64 0, .int .i64 0, .int .i64 0, .int .i64 0, .int .u64 0] 33) k11
              replace k12 := cell_alloc (o := .cells #[.int .i64 0, .int .u64 0, .int .i64 0, .int .i64 0, .int .i64 0, .int .i64 0, .int .u64 0] 33) k12
              replace k13 := cell_alloc (o := .cells #[.int .i64 0, .int .u64 0, .int .i64 0, .int .i64 0, .int .i64 0, .int .i64 0, .int .u64 0] 33) k13
              replace k14 := cell_alloc (o := .cells #[.int .i64 0, .int .u64 0, .int .i64 0, .int .i64 0, .int .i64 0, .int .i64 0, .int .u64 0] 33) k14
              replace k15 := cell_alloc (o := .cells #[.int .i64 0, .int .u64 0, .int .i64 0, .int .i64 0, .int .i64 0, .int .i64 0, .int .u64 0] 33) k15
              replace k16 := cell_alloc (o := .cells #[.int .i64 0, .int .u64 0, .int .i64 0, .int .i64 0, .int .i64 0, .int .i64 0, .int .u64 0] 33) k16
              replace k17 := cell_alloc (o := .cells #[.int .i64 0, .int .u64 0, .int .i64 0, .int .i64 0, .int .i64 0, .int .i64 0, .int .u64 0] 33) k17
              replace gR := block_later (below_new _ (.cells #[.int .i64 0, .int .u64 0, .int .i64 0, .int .i64 0, .int .i64 0, .int .i64 0, .int .u64 0] 33)) gR
              replace hB := below_tr hB (below_new _ (.cells #[.int .i64 0, .int .u64 0, .int .i64 0, .int .i64 0, .int .i64 0, .int .i64 0, .int .u64 0] 33))
              generalize v4.heap.size = gn at *
              generalize v4.alloc (.cells #[.int .i64 0, .int .u64 0, .int .i64 0, .int .i64 0, .int .i64 0, .int .i64 0, .int .u64 0] 33) = va at *
              refine hK.out _ _ ⟨k0, k1, k2, k3, k4, k5, k6, k7, k8, k9, k10, k11, k12, k13, k14, k15, k16, k17⟩ (fun hHelda => ?_)
              clear hK
              try simp only [Act.put, List.setIfInBounds_toArray, List.set_cons_zero, List.set_cons_succ]
              refine wpAnyH_ready (rs := [17]) (by kernel_rfl) (by simp) ?_
              refine AllReadyH.cons rfl (fun K hK => ?_) AllReadyH.nil
              go_simp
              refine (c5 _).mono ?_
              rintro e v5 ⟨rfl, hb⟩
              go_wp2_with fail
              replace k0 := cell_later hb k0
              replace k1 := cell_later hb k1
              replace k2 := cell_later hb k2
              replace k3 := cell_later hb k3
              replace k4 := cell_later hb k4
              replace k5 := cell_later hb k5
              replace k6 := cell_later hb k6
              replace k7 := cell_later hb k7
              replace k8 := cell_later hb k8
              replace k9 := cell_later hb k9
              replace k10 := cell_later hb k10
              replace k11 := cell_later hb k11
              replace k12 := cell_later hb k12
              replace k13 := cell_later hb k13
              replace k14 := cell_later hb k14
              replace k15 := cell_later hb k15
              replace k16 := cell_later hb k16
              replace k17 := cell_later hb k17
              replace gR := block_later hb gR
              replace gN := block_later hb gN
              replace hB := below_tr hB hb
              clear hb
              refine hK.out _ _ ⟨k0, k1, k2, k3, k4, k5, k6, k7, k8, k9, k10, k11, k12, k13, k14, k15, k16, k17⟩ (fun hHeldc5 => ?_)
              clear hK
              try simp only [Act.put, List.setIfInBounds_toArray, List.set_cons_zero, List.set_cons_succ]
              refine take_at (i := 18) (v := ?_) 28 rfl rfl (by kernel_rfl) (by kernel_rfl) (by kernel_rfl) (fun _ _ _ h => h) (Or.inl ⟨by rfl, ?_⟩) (by assumption) ?_
              rotate_left
              · (intro w' hSw; (try dsimp only at hSw); go_simp; all_goals with_reducible rfl)
              try simp only [Act.put, List.setIfInBounds_toArray, List.set_cons_zero, List.set_cons_succ]
              refine wpAnyH_ready (rs := [21]) (by kernel_rfl) (by simp) ?_
              refine AllReadyH.cons rfl (fun K hK => ?_) AllReadyH.nil
              go_simp
              refine (c6 _).mono ?_
              rintro e v6 ⟨rfl, hb⟩
              go_wp2_with fail
              replace k0 := cell_later hb k0
              replace k1 := cell_later hb k1
              replace k2 := cell_later hb k2
              replace k3 := cell_later hb k3
              replace k4 := cell_later hb k4
              replace k5 := cell_later hb k5
              replace k6 := cell_later hb k6
              replace k7 := cell_later hb k7
              replace k8 := cell_later hb k8
              replace k9 := cell_later hb k9
              replace k10 := cell_later hb k10
              replace k11 := cell_later hb k11
              replace k12 := cell_later hb k12
              replace k13 := cell_later hb k13
              replace k14 := cell_later hb k14
              replace k15 := cell_later hb k15
              replace k16 := cell_later hb k16
              replace k17 := cell_later hb k17
              replace gR := block_later hb gR
              replace gN := block_later hb gN
              replace hB := below_tr hB hb
              clear hb
              refine hK.out _ _ ⟨k0, k1, k2, k3, k4, k5, k6, k7, k8, k9, k10, k11, k12, k13, k14, k15, k16, k17⟩ (fun hHeldc6 => ?_)
              clear hK
              try simp only [Act.put, List.setIfInBounds_toArray, List.set_cons_zero, List.set_cons_succ]
              refine take_at (i := 22) (v := ?_) 32 rfl rfl (by kernel_rfl) (by kernel_rfl) (by kernel_rfl) (fun _ _ _ h => h) (Or.inl ⟨by rfl, ?_⟩) (by assumption) ?_
              rotate_left
              · (intro w' hSw; (try dsimp only at hSw); go_simp; all_goals with_reducible rfl)
              try simp only [Act.put, List.setIfInBounds_toArray, List.set_cons_zero, List.set_cons_succ]
              refine take_at (i := 24) (v := ?_) 34 rfl rfl (by kernel_rfl) (by kernel_rfl) (by kernel_rfl) (fun _ _ _ h => h) (Or.inl ⟨by rfl, ?_⟩) (by assumption) ?_
              rotate_left
              · (intro w' hSw; (try dsimp only at hSw); go_simp; all_goals with_reducible rfl)
              try simp only [Act.put, List.setIfInBounds_toArray, List.set_cons_zero, List.set_cons_succ]
              refine wpAnyH_ready (rs := [26]) (by kernel_rfl) (by simp) ?_
              refine AllReadyH.cons rfl (fun K hK => ?_) AllReadyH.nil
              refine step_store_seg rfl rfl 33 _ _ rfl (gn) 0 _ #[.int .i64 (nK : Nat), .int .u64 (nA : Nat), .int .i64 (nB : Nat), .int .i64 (nR : Nat), .int .i64 (nG : Nat), .int .i64 (nS : Nat), .int .u64 (y : Nat)] rfl rfl rfl 33 _ gN (show 0 + 7 ≤ 7 by decide) info7 (by simp [Value.oneCell']) #[.int .i64 (nK : Nat), .int .u64 (nA : Nat), .int .i64 (nB : Nat), .int .i64 (nR : Nat), .int .i64 (nG : Nat), .int .i64 (nS : Nat), .int .u64 (y : Nat)] rfl ?_
              intro wsz hrq htq
              replace k0 := turn_cell htq (by omega) k0
              replace k1 := turn_cell htq (by omega) k1
              replace k2 := turn_cell htq (by omega) k2
              replace k3 := turn_cell htq (by omega) k3
              replace k4 := turn_cell htq (by omega) k4
              replace k5 := turn_cell htq (by omega) k5
              replace k6 := turn_cell htq (by omega) k6
              replace k7 := turn_cell htq (by omega) k7
              replace k8 := turn_cell htq (by omega) k8
              replace k9 := turn_cell htq (by omega) k9
              replace k10 := turn_cell htq (by omega) k10
              replace k11 := turn_cell htq (by omega) k11
              replace k12 := turn_cell htq (by omega) k12
              replace k13 := turn_cell htq (by omega) k13
              replace k14 := turn_cell htq (by omega) k14
              replace k15 := turn_cell htq (by omega) k15
              replace k16 := turn_cell htq (by omega) k16
              replace k17 := turn_cell htq (by omega) k17
              replace gR := block_turn htq gR (by omega)
              replace gN := hrq
              replace hB := below_turn hB htq (by omega)
              refine hK.out _ _ ⟨k0, k1, k2, k3, k4, k5, k6, k7, k8, k9, k10, k11, k12, k13, k14, k15, k16, k17⟩ (fun hHeldsz => ?_)
              clear hK hrq
              try simp only [Act.put, List.setIfInBounds_toArray, List.set_cons_zero, List.set_cons_succ]
              refine wpAnyH_done (by kernel_rfl) ?_ _
              refine NoPanic.normal ?_
              go_wp2_with fail
              go_meet
              exact ⟨gn, rfl, hgn, hB, gR, gN⟩
          · go_simp
            have gN := heap_alloc_new v3 (.cells #[.int .i64 0, .int .u64 0, .int .i64 0, .int .i64 0, .int .i64 0, .int .i64 0, .int .u64 0] 33)
            have hgn : w.heap.size < v3.heap.size := block_lt gR
            replace k0 := cell_alloc (o := .cells #[.int .i64 0, .int .u64 0, .int .i64 0, .int .i64 0, .int .i64 0, .int .i64 0, .int .u64 0] 33) k0
            replace k1 := cell_alloc (o := .cells #[.int .i64 0, .int .u64 0, .int .i64 0, .int .i64 0, .int .i64 0, .int .i64 0, .int .u64 0] 33) k1
            replace k2 := cell_alloc (o := .cells #[.int .i64 0, .int .u64 0, .int .i64 0, .int .i64 0, .int .i64 0, .int .i64 0, .int .u64 0] 33) k2
            replace k3 := cell_alloc (o := .cells #[.int .i64 0, .int .u64 0, .int .i64 0, .int .i64 0, .int .i64 0, .int .i64 0, .int .u64 0] 33) k3
            replace k4 := cell_alloc (o := .cells #[.int .i64 0, .int .u64 0, .int .i64 0, .int .i64 0, .int .i64 0, .int .i64 0, .int .u64 0] 33) k4
            replace k5 := cell_alloc (o := .cells #[.int .i64 0, .int .u64 0, .int .i64 0, .int .i64 0, .int .i64 0, .int .i64 0, .int .u64 0] 33) k5
            replace k6 := cell_alloc (o := .cells #[.int .i64 0, .int .u64 0, .int .i64 0, .int .i64 0, .int .i64 0, .int .i64 0, .int .u64 0] 33) k6
            replace k7 := cell_alloc (o := .cells #[.int .i64 0, .int .u64 0, .int .i64 0, .int .i64 0, .int .i64 0, .int .i64 0, .int .u64 0] 33) k7
            replace k8 := cell_alloc (o := .cells #[.int .i64 0, .int .u64 0, .int .i64 0, .int .i64 0, .int .i64 0, .int .i64 0, .int .u64 0] 33) k8
            replace k9 := cell_alloc (o := .cells #[.int .i64 0, .int .u64 0, .int .i64 0, .int .i64 0, .int .i64 0, .int .i64 0, .int .u64 0] 33) k9
            replace k10 := cell_alloc (o := .cells #[.int .i64 0, .int .u64 0, .int .i64 0, .int .i64 0, .int .i64 0, .int .i64 0, .int .u64 0] 33) k10
            replace k11 := cell_alloc (o := .cells #[.int .i64 0, .int .u64 0, .int .i64 0, .int .i64 0, .int .i64 0, .int .i64 0, .int .u64 0] 33) k11
            replace k12 := cell_alloc (o := .cells #[.int .i64 0, .int .u64 0, .int .i64 0, .int .i64 0, .int .i64 0, .int .i64 0, .int .u64 0] 33) k12
            replace k13 := cell_alloc (o := .cells #[.int .i64 0, .int .u64 0, .int .i64 0, .int .i64 0, .int .i64 0, .int .i64 0, .int .u64 0] 33) k13
            replace k14 := cell_alloc (o := .cells #[.int .i64 0, .int .u64 0, .int .i64 0, .int .i64 0, .int .i64 0, .int .i64 0, .int .u64 0] 33) k14
            replace k15 := cell_alloc (o := .cells #[.int .i64 0, .int .u64 0, .int .i64 0, .int .i64 0, .int .i64 0, .int .i64 0, .int .u64 0] 33) k15
            replace k16 := cell_alloc (o := .cells #[.int .i64 0, .int .u64 0, .int .i64 0, .int .i64 0, .int .i64 0, .int .i64 0, .int .u64 0] 33) k16
            replace k17 := cell_alloc (o := .cells #[.int .i64 0, .int .u64 0, .int .i64 0, .int .i64 0, .int .i64 0, .int .i64 0, .int .u64 0] 33) k17
            replace gR := block_later (below_new _ (.cells #[.int .i64 0, .int .u64 0, .int .i64 0, .int .i64 0, .int .i64 0, .int .i64 0, .int .u64 0] 33)) gR
            replace hB := below_tr hB (below_new _ (.cells #[.int .i64 0, .int .u64 0, .int .i64 0, .int .i64 0, .int .i64 0, .int .i64 0, .int .u64 0] 33))
            generalize v3.heap.size = gn at *
            generalize v3.alloc (.cells #[.int .i64 0, .int .u64 0, .int .i64 0, .int .i64 0, .int .i64 0, .int .i64 0, .int .u64 0] 33) = va at *
            refine hK.out _ _ ⟨k0, k1, k2, k3, k4, k5, k6, k7, k8, k9, k10, k11, k12, k13, k14, k15, k16, k17⟩ (fun hHelda => ?_)
            clear hK
            try simp only [Act.put, List.setIfInBounds_toArray, List.set_cons_zero, List.set_cons_succ]
            refine wpAnyH_ready (rs := [13]) (by kernel_rfl) (by simp) ?_
            refine AllReadyH.cons rfl (fun K hK => ?_) AllReadyH.nil
            go_simp
            refine (c4 _).mono ?_
            rintro e v4 ⟨rfl, hb⟩
            go_wp2_with fail
            replace k0 := cell_later hb k0
            replace k1 := cell_later hb k1
            replace k2 := cell_later hb k2
            replace k3 := cell_later hb k3
            replace k4 := cell_later hb k4
            replace k5 := cell_later hb k5
            replace k6 := cell_later hb k6
            replace k7 := cell_later hb k7
            replace k8 := cell_later hb k8
            replace k9 := cell_later hb k9
            replace k10 := cell_later hb k10
            replace k11 := cell_later hb k11
            replace k12 := cell_later hb k12
            replace k13 := cell_later hb k13
            replace k14 := cell_later hb k14
            replace k15 := cell_later hb k15
            replace k16 := cell_later hb k16
            replace k17 := cell_later hb k17
            replace gR := block_later hb gR
            replace gN := block_later hb gN
            replace hB := below_tr hB hb
            clear hb
            refine hK.out _ _ ⟨k0, k1, k2, k3, k4, k5, k6, k7, k8, k9, k10, k11, k12, k13, k14, k15, k16, k17⟩ (fun hHeldc4 => ?_)
            clear hK
            try simp only [Act.put, List.setIfInBounds_toArray, List.set_cons_zero, List.set_cons_succ]
            refine take_at (i := 14) (v := ?_) 24 rfl rfl (by kernel_rfl) (by kernel_rfl) (by kernel_rfl) (fun _ _ _ h => h) (Or.inl ⟨by rfl, ?_⟩) (by assumption) ?_
            rotate_left
            · (intro w' hSw; (try dsimp only at hSw); go_simp; all_goals with_reducible rfl)
            try simp only [Act.put, List.setIfInBounds_toArray, List.set_cons_zero, List.set_cons_succ]
            refine wpAnyH_ready (rs := [17]) (by kernel_rfl) (by simp) ?_
            refine AllReadyH.cons rfl (fun K hK => ?_) AllReadyH.nil
            go_simp
            refine (c5 _).mono ?_
            rintro e v5 ⟨rfl, hb⟩
            go_wp2_with fail
            replace k0 := cell_later hb k0
            replace k1 := cell_later hb k1
            replace k2 := cell_later hb k2
            replace k3 := cell_later hb k3
            replace k4 := cell_later hb k4
            replace k5 := cell_later hb k5
            replace k6 := cell_later hb k6
            replace k7 := cell_later hb k7
            replace k8 := cell_later hb k8
            replace k9 := cell_later hb k9
            replace k10 := cell_later hb k10
            replace k11 := cell_later hb k11
            replace k12 := cell_later hb k12
            replace k13 := cell_later hb k13
            replace k14 := cell_later hb k14
            replace k15 := cell_later hb k15
            replace k16 := cell_later hb k16
            replace k17 := cell_later hb k17
            replace gR := block_later hb gR
            replace gN := block_later hb gN
            replace hB := below_tr hB hb
            clear hb
            refine hK.out _ _ ⟨k0, k1, k2, k3, k4, k5, k6, k7, k8, k9, k10, k11, k12, k13, k14, k15, k16, k17⟩ (fun hHeldc5 => ?_)
            clear hK
            try simp only [Act.put, List.setIfInBounds_toArray, List.set_cons_zero, List.set_cons_succ]
            refine take_at (i := 18) (v := ?_) 28 rfl rfl (by kernel_rfl) (by kernel_rfl) (by kernel_rfl) (fun _ _ _ h => h) (Or.inl ⟨by rfl, ?_⟩) (by assumption) ?_
            rotate_left
            · (intro w' hSw; (try dsimp only at hSw); go_simp; all_goals with_reducible rfl)
            try simp only [Act.put, List.setIfInBounds_toArray, List.set_cons_zero, List.set_cons_succ]
            refine wpAnyH_ready (rs := [21]) (by kernel_rfl) (by simp) ?_
            refine AllReadyH.cons rfl (fun K hK => ?_) AllReadyH.nil
            go_simp
            refine (c6 _).mono ?_
            rintro e v6 ⟨rfl, hb⟩
            go_wp2_with fail
            replace k0 := cell_later hb k0
            replace k1 := cell_later hb k1
            replace k2 := cell_later hb k2
            replace k3 := cell_later hb k3
            replace k4 := cell_later hb k4
            replace k5 := cell_later hb k5
            replace k6 := cell_later hb k6
            replace k7 := cell_later hb k7
            replace k8 := cell_later hb k8
            replace k9 := cell_later hb k9
            replace k10 := cell_later hb k10
            replace k11 := cell_later hb k11
            replace k12 := cell_later hb k12
            replace k13 := cell_later hb k13
            replace k14 := cell_later hb k14
            replace k15 := cell_later hb k15
            replace k16 := cell_later hb k16
            replace k17 := cell_later hb k17
            replace gR := block_later hb gR
            replace gN := block_later hb gN
            replace hB := below_tr hB hb
            clear hb
            refine hK.out _ _ ⟨k0, k1, k2, k3, k4, k5, k6, k7, k8, k9, k10, k11, k12, k13, k14, k15, k16, k17⟩ (fun hHeldc6 => ?_)
            clear hK
            try simp only [Act.put, List.setIfInBounds_toArray, List.set_cons_zero, List.set_cons_succ]
            refine take_at (i := 22) (v := ?_) 32 rfl rfl (by kernel_rfl) (by kernel_rfl) (by kernel_rfl) (fun _ _ _ h => h) (Or.inl ⟨by rfl, ?_⟩) (by assumption) ?_
            rotate_left
            · (intro w' hSw; (try dsimp only at hSw); go_simp; all_goals with_reducible rfl)
            try simp only [Act.put, List.setIfInBounds_toArray, List.set_cons_zero, List.set_cons_succ]
            refine take_at (i := 24) (v := ?_) 34 rfl rfl (by kernel_rfl) (by kernel_rfl) (by kernel_rfl) (fun _ _ _ h => h) (Or.inl ⟨by rfl, ?_⟩) (by assumption) ?_
            rotate_left
            · (intro w' hSw; (try dsimp only at hSw); go_simp; all_goals with_reducible rfl)
            try simp only [Act.put, List.setIfInBounds_toArray, List.set_cons_zero, List.set_cons_succ]
            refine wpAnyH_ready (rs := [26]) (by kernel_rfl) (by simp) ?_
            refine AllReadyH.cons rfl (fun K hK => ?_) AllReadyH.nil
            refine step_store_seg rfl rfl 33 _ _ rfl (gn) 0 _ #[.int .i64 (nK : Nat), .int .u64 (nA : Nat), .int .i64 (nB : Nat), .int .i64 (nR : Nat), .int .i64 (nG : Nat), .int .i64 (nS : Nat), .int .u64 (y : Nat)] rfl rfl rfl 33 _ gN (show 0 + 7 ≤ 7 by decide) info7 (by simp [Value.oneCell']) #[.int .i64 (nK : Nat), .int .u64 (nA : Nat), .int .i64 (nB : Nat), .int .i64 (nR : Nat), .int .i64 (nG : Nat), .int .i64 (nS : Nat), .int .u64 (y : Nat)] rfl ?_
            intro wsz hrq htq
            replace k0 := turn_cell htq (by omega) k0
            replace k1 := turn_cell htq (by omega) k1
            replace k2 := turn_cell htq (by omega) k2
            replace k3 := turn_cell htq (by omega) k3
            replace k4 := turn_cell htq (by omega) k4
            replace k5 := turn_cell htq (by omega) k5
            replace k6 := turn_cell htq (by omega) k6
            replace k7 := turn_cell htq (by omega) k7
            replace k8 := turn_cell htq (by omega) k8
            replace k9 := turn_cell htq (by omega) k9
            replace k10 := turn_cell htq (by omega) k10
            replace k11 := turn_cell htq (by omega) k11
            replace k12 := turn_cell htq (by omega) k12
            replace k13 := turn_cell htq (by omega) k13
            replace k14 := turn_cell htq (by omega) k14
            replace k15 := turn_cell htq (by omega) k15
            replace k16 := turn_cell htq (by omega) k16
            replace k17 := turn_cell htq (by omega) k17
            replace gR := block_turn htq gR (by omega)
            replace gN := hrq
            replace hB := below_turn hB htq (by omega)
            refine hK.out _ _ ⟨k0, k1, k2, k3, k4, k5, k6, k7, k8, k9, k10, k11, k12, k13, k14, k15, k16, k17⟩ (fun hHeldsz => ?_)
            clear hK hrq
            try simp only [Act.put, List.setIfInBounds_toArray, List.set_cons_zero, List.set_cons_succ]
            refine wpAnyH_done (by kernel_rfl) ?_ _
            refine NoPanic.normal ?_
            go_wp2_with fail
            go_meet
            exact ⟨gn, rfl, hgn, hB, gR, gN⟩
        · go_simp
          have gN := heap_alloc_new v2 (.cells #[.int .i64 0, .int .u64 0, .int .i64 0, .int .i64 0, .int .i64 0, .int .i64 0, .int .u64 0] 33)
          have hgn : w.heap.size < v2.heap.size := block_lt gR
          replace k0 := cell_alloc (o := .cells #[.int .i64 0, .int .u64 0, .int .i64 0, .int .i64 0, .int .i64 0, .int .i64 0, .int .u64 0] 33) k0
          replace k1 := cell_alloc (o := .cells #[.int .i64 0, .int .u64 0, .int .i64 0, .int .i64 0, .int .i64 0, .int .i64 0, .int .u64 0] 33) k1
          replace k2 := cell_alloc (o := .cells #[.int .i64 0, .int .u64 0, .int .i64 0, .int .i64 0, .int .i64 0, .int .i64 0, .int .u64 0] 33) k2
          replace k3 := cell_alloc (o := .cells #[.int .i64 0, .int .u64 0, .int .i64 0, .int .i64 0, .int .i64 0, .int .i64 0, .int .u64 0] 33) k3
          replace k4 := cell_alloc (o := .cells #[.int .i64 0, .int .u64 0, .int .i64 0, .int .i64 0, .int .i64 0, .int .i64 0, .int .u64 0] 33) k4
          replace k5 := cell_alloc (o := .cells #[.int .i64 0, .int .u64 0, .int .i64 0, .int .i64 0, .int .i64 0, .int .i64 0, .int .u64 0] 33) k5
          replace k6 := cell_alloc (o := .cells #[.int .i64 0, .int .u64 0, .int .i64 0, .int .i64 0, .int .i64 0, .int .i64 0, .int .u64 0] 33) k6
          replace k7 := cell_alloc (o := .cells #[.int .i64 0, .int .u64 0, .int .i64 0, .int .i64 0, .int .i64 0, .int .i64 0, .int .u64 0] 33) k7
          replace k8 := cell_alloc (o := .cells #[.int .i64 0, .int .u64 0, .int .i64 0, .int .i64 0, .int .i64 0, .int .i64 0, .int .u64 0] 33) k8
          replace k9 := cell_alloc (o := .cells #[.int .i64 0, .int .u64 0, .int .i64 0, .int .i64 0, .int .i64 0, .int .i64 0, .int .u64 0] 33) k9
          replace k10 := cell_alloc (o := .cells #[.int .i64 0, .int .u64 0, .int .i64 0, .int .i64 0, .int .i64 0, .int .i64 0, .int .u64 0] 33) k10
          replace k11 := cell_alloc (o := .cells #[.int .i64 0, .int .u64 0, .int .i64 0, .int .i64 0, .int .i64 0, .int .i64 0, .int .u64 0] 33) k11
          replace k12 := cell_alloc (o := .cells #[.int .i64 0, .int .u64 0, .int .i64 0, .int .i64 0, .int .i64 0, .int .i64 0, .int .u64 0] 33) k12
          replace k13 := cell_alloc (o := .cells #[.int .i64 0, .int .u64 0, .int .i64 0, .int .i64 0, .int .i64 0, .int .i64 0, .int .u64 0] 33) k13
          replace k14 := cell_alloc (o := .cells #[.int .i64 0, .int .u64 0, .int .i64 0, .int .i64 0, .int .i64 0, .int .i64 0, .int .u64 0] 33) k14
          replace k15 := cell_alloc (o := .cells #[.int .i64 0, .int .u64 0, .int .i64 0, .int .i64 0, .int .i64 0, .int .i64 0, .int .u64 0] 33) k15
          replace k16 := cell_alloc (o := .cells #[.int .i64 0, .int .u64 0, .int .i64 0, .int .i64 0, .int .i64 0, .int .i64 0, .int .u64 0] 33) k16
          replace k17 := cell_alloc (o := .cells #[.int .i64 0, .int .u64 0, .int .i64 0, .int .i64 0, .int .i64 0, .int .i64 0, .int .u64 0] 33) k17
          replace gR := block_later (below_new _ (.cells #[.int .i64 0, .int .u64 0, .int .i64 0, .int .i64 0, .int .i64 0, .int .i64 0, .int .u64 0] 33)) gR
          replace hB := below_tr hB (below_new _ (.cells #[.int .i64 0, .int .u64 0, .int .i64 0, .int .i64 0, .int .i64 0, .int .i64 0, .int .u64 0] 33))
          generalize v2.heap.size = gn at *
          generalize v2.alloc (.cells #[.int .i64 0, .int .u64 0, .int .i64 0, .int .i64 0, .int .i64 0, .int .i64 0, .int .u64 0] 33) = va at *
          refine hK.out _ _ ⟨k0, k1, k2, k3, k4, k5, k6, k7, k8, k9, k10, k11, k12, k13, k14, k15, k16, k17⟩ (fun hHelda => ?_)
          clear hK
          try simp only [Act.put, List.setIfInBounds_toArray, List.set_cons_zero, List.set_cons_succ]
          refine wpAnyH_ready (rs := [9]) (by kernel_rfl) (by simp) ?_
          refine AllReadyH.cons rfl (fun K hK => ?_) AllReadyH.nil
          go_simp
          refine (c3 _).mono ?_
          rintro e v3 ⟨rfl, hb⟩
          go_wp2_with fail
          replace k0 := cell_later hb k0
          replace k1 := cell_later hb k1
          replace k2 := cell_later hb k2
          replace k3 := cell_later hb k3
          replace k4 := cell_later hb k4
          replace k5 := cell_later hb k5
          replace k6 := cell_later hb k6
          replace k7 := cell_later hb k7
          replace k8 := cell_later hb k8
          replace k9 := cell_later hb k9
          replace k10 := cell_later hb k10
          replace k11 := cell_later hb k11
          replace k12 := cell_later hb k12
          replace k13 := cell_later hb k13
          replace k14 := cell_later hb k14
          replace k15 := cell_later hb k15
          replace k16 := cell_later hb k16
          replace k17 := cell_later hb k17
          replace gR := block_later hb gR
          replace gN := block_later hb gN
          replace hB := below_tr hB hb
          clear hb
          refine hK.out _ _ ⟨k0, k1, k2, k3, k4, k5, k6, k7, k8, k9, k10, k11, k12, k13, k14, k15, k16, k17⟩ (fun hHeldc3 => ?_)
          clear hK
          try simp only [Act.put, List.setIfInBounds_toArray, List.set_cons_zero, List.set_cons_succ]
          refine take_at (i := 10) (v := ?_) 20 rfl rfl (by kernel_rfl) (by kernel_rfl) (by kernel_rfl) (fun _ _ _ h => h) (Or.inl ⟨by rfl, ?_⟩) (by assumption) ?_
          rotate_left
          · (intro w' hSw; (try dsimp only at hSw); go_simp; all_goals with_reducible rfl)
          try simp only [Act.put, List.setIfInBounds_toArray, List.set_cons_zero, List.set_cons_succ]
          refine wpAnyH_ready (rs := [13]) (by kernel_rfl) (by simp) ?_
          refine AllReadyH.cons rfl (fun K hK => ?_) AllReadyH.nil
          go_simp
          refine (c4 _).mono ?_
          rintro e v4 ⟨rfl, hb⟩
          go_wp2_with fail
          replace k0 := cell_later hb k0
          replace k1 := cell_later hb k1
          replace k2 := cell_later hb k2
          replace k3 := cell_later hb k3
          replace k4 := cell_later hb k4
          replace k5 := cell_later hb k5
          replace k6 := cell_later hb k6
          replace k7 := cell_later hb k7
          replace k8 := cell_later hb k8
          replace k9 := cell_later hb k9
          replace k10 := cell_later hb k10
          replace k11 := cell_later hb k11
          replace k12 := cell_later hb k12
          replace k13 := cell_later hb k13
          replace k14 := cell_later hb k14
          replace k15 := cell_later hb k15
          replace k16 := cell_later hb k16
          replace k17 := cell_later hb k17
          replace gR := block_later hb gR
          replace gN := block_later hb gN
          replace hB := below_tr hB hb
          clear hb
          refine hK.out _ _ ⟨k0, k1, k2, k3, k4, k5, k6, k7, k8, k9, k10, k11, k12, k13, k14, k15, k16, k17⟩ (fun hHeldc4 => ?_)
          clear hK
          try simp only [Act.put, List.setIfInBounds_toArray, List.set_cons_zero, List.set_cons_succ]
          refine take_at (i := 14) (v := ?_) 24 rfl rfl (by kernel_rfl) (by kernel_rfl) (by kernel_rfl) (fun _ _ _ h => h) (Or.inl ⟨by rfl, ?_⟩) (by assumption) ?_
          rotate_left
          · (intro w' hSw; (try dsimp only at hSw); go_simp; all_goals with_reducible rfl)
          try simp only [Act.put, List.setIfInBounds_toArray, List.set_cons_zero, List.set_cons_succ]
          refine wpAnyH_ready (rs := [17]) (by kernel_rfl) (by simp) ?_
          refine AllReadyH.cons rfl (fun K hK => ?_) AllReadyH.nil
          go_simp
          refine (c5 _).mono ?_
          rintro e v5 ⟨rfl, hb⟩
          go_wp2_with fail
          replace k0 := cell_later hb k0
          replace k1 := cell_later hb k1
          replace k2 := cell_later hb k2
          replace k3 := cell_later hb k3
          replace k4 := cell_later hb k4
          replace k5 := cell_later hb k5
          replace k6 := cell_later hb k6
          replace k7 := cell_later hb k7
          replace k8 := cell_later hb k8
          replace k9 := cell_later hb k9
          replace k10 := cell_later hb k10
          replace k11 := cell_later hb k11
          replace k12 := cell_later hb k12
          replace k13 := cell_later hb k13
          replace k14 := cell_later hb k14
          replace k15 := cell_later hb k15
          replace k16 := cell_later hb k16
          replace k17 := cell_later hb k17
          replace gR := block_later hb gR
          replace gN := block_later hb gN
          replace hB := below_tr hB hb
          clear hb
          refine hK.out _ _ ⟨k0, k1, k2, k3, k4, k5, k6, k7, k8, k9, k10, k11, k12, k13, k14, k15, k16, k17⟩ (fun hHeldc5 => ?_)
          clear hK
          try simp only [Act.put, List.setIfInBounds_toArray, List.set_cons_zero, List.set_cons_succ]
          refine take_at (i := 18) (v := ?_) 28 rfl rfl (by kernel_rfl) (by kernel_rfl) (by kernel_rfl) (fun _ _ _ h => h) (Or.inl ⟨by rfl, ?_⟩) (by assumption) ?_
          rotate_left
          · (intro w' hSw; (try dsimp only at hSw); go_simp; all_goals with_reducible rfl)
          try simp only [Act.put, List.setIfInBounds_toArray, List.set_cons_zero, List.set_cons_succ]
          refine wpAnyH_ready (rs := [21]) (by kernel_rfl) (by simp) ?_
          refine AllReadyH.cons rfl (fun K hK => ?_) AllReadyH.nil
          go_simp
          refine (c6 _).mono ?_
          rintro e v6 ⟨rfl, hb⟩
          go_wp2_with fail
          replace k0 := cell_later hb k0
          replace k1 := cell_later hb k1
          replace k2 := cell_later hb k2
          replace k3 := cell_later hb k3
          replace k4 := cell_later hb k4
          replace k5 := cell_later hb k5
          replace k6 := cell_later hb k6
          replace k7 := cell_later hb k7
          replace k8 := cell_later hb k8
          replace k9 := cell_later hb k9
          replace k10 := cell_later hb k10
          replace k11 := cell_later hb k11
          replace k12 := cell_later hb k12
          replace k13 := cell_later hb k13
          replace k14 := cell_later hb k14
          replace k15 := cell_later hb k15
          replace k16 := cell_later hb k16
          replace k17 := cell_later hb k17
          replace gR := block_later hb gR
          replace gN := block_later hb gN
          replace hB := below_tr hB hb
          clear hb
          refine hK.out _ _ ⟨k0, k1, k2, k3, k4, k5, k6, k7, k8, k9, k10, k11, k12, k13, k14, k15, k16, k17⟩ (fun hHeldc6 => ?_)
          clear hK
          try simp only [Act.put, List.setIfInBounds_toArray, List.set_cons_zero, List.set_cons_succ]
          refine take_at (i := 22) (v := ?_) 32 rfl rfl (by kernel_rfl) (by kernel_rfl) (by kernel_rfl) (fun _ _ _ h => h) (Or.inl ⟨by rfl, ?_⟩) (by assumption) ?_
          rotate_left
          · (intro w' hSw; (try dsimp only at hSw); go_simp; all_goals with_reducible rfl)
          try simp only [Act.put, List.setIfInBounds_toArray, List.set_cons_zero, List.set_cons_succ]
          refine take_at (i := 24) (v := ?_) 34 rfl rfl (by kernel_rfl) (by kernel_rfl) (by kernel_rfl) (fun _ _ _ h => h) (Or.inl ⟨by rfl, ?_⟩) (by assumption) ?_
          rotate_left
          · (intro w' hSw; (try dsimp only at hSw); go_simp; all_goals with_reducible rfl)
          try simp only [Act.put, List.setIfInBounds_toArray, List.set_cons_zero, List.set_cons_succ]
          refine wpAnyH_ready (rs := [26]) (by kernel_rfl) (by simp) ?_
          refine AllReadyH.cons rfl (fun K hK => ?_) AllReadyH.nil
          refine step_store_seg rfl rfl 33 _ _ rfl (gn) 0 _ #[.int .i64 (nK : Nat), .int .u64 (nA : Nat), .int .i64 (nB : Nat), .int .i64 (nR : Nat), .int .i64 (nG : Nat), .int .i64 (nS : Nat), .int .u64 (y : Nat)] rfl rfl rfl 33 _ gN (show 0 + 7 ≤ 7 by decide) info7 (by simp [Value.oneCell']) #[.int .i64 (nK : Nat), .int .u64 (nA : Nat), .int .i64 (nB : Nat), .int .i64 (nR : Nat), .int .i64 (nG : Nat), .int .i64 (nS : Nat), .int .u64 (y : Nat)] rfl ?_
          intro wsz hrq htq
          replace k0 := turn_cell htq (by omega) k0
          replace k1 := turn_cell htq (by omega) k1
          replace k2 := turn_cell htq (by omega) k2
          replace k3 := turn_cell htq (by omega) k3
          replace k4 := turn_cell htq (by omega) k4
          replace k5 := turn_cell htq (by omega) k5
          replace k6 := turn_cell htq (by omega) k6
          replace k7 := turn_cell htq (by omega) k7
          replace k8 := turn_cell htq (by omega) k8
          replace k9 := turn_cell htq (by omega) k9
          replace k10 := turn_cell htq (by omega) k10
          replace k11 := turn_cell htq (by omega) k11
          replace k12 := turn_cell htq (by omega) k12
          replace k13 := turn_cell htq (by omega) k13
          replace k14 := turn_cell htq (by omega) k14
          replace k15 := turn_cell htq (by omega) k15
          replace k16 := turn_cell htq (by omega) k16
          replace k17 := turn_cell htq (by omega) k17
          replace gR := block_turn htq gR (by omega)
          replace gN := hrq
          replace hB := below_turn hB htq (by omega)
          refine hK.out _ _ ⟨k0, k1, k2, k3, k4, k5, k6, k7, k8, k9, k10, k11, k12, k13, k14, k15, k16, k17⟩ (fun hHeldsz => ?_)
          clear hK hrq
          try simp only [Act.put, List.setIfInBounds_toArray, List.set_cons_zero, List.set_cons_succ]
          refine wpAnyH_done (by kernel_rfl) ?_ _
          refine NoPanic.normal ?_
          go_wp2_with fail
          go_meet
          exact ⟨gn, rfl, hgn, hB, gR, gN⟩
      · go_simp
        have gN := heap_alloc_new v1 (.cells #[.int .i64 0, .int .u64 0, .int .i64 0, .int .i64 0, .int .i64 0, .int .i64 0, .int .u64 0] 33)
        have hgn : w.heap.size < v1.heap.size := block_lt gR
        replace k0 := cell_alloc (o := .cells #[.int .i64 0, .int .u64 0, .int .i64 0, .int .i64 0, .int .i64 0, .int .i64 0, .int .u64 0] 33) k0
        replace k1 := cell_alloc (o := .cells #[.int .i64 0, .int .u64 0, .int .i64 0, .int .i64 0, .int .i64 0, .int .i64 0, .int .u64 0] 33) k1
        replace k2 := cell_alloc (o := .cells #[.int .i64 0, .int .u64 0, .int .i64 0, .int .i64 0, .int .i64 0, .int .i64 0, .int .u64 0] 33) k2
        replace k3 := cell_alloc (o := .cells #[.int .i64 0, .int .u64 0, .int .i64 0, .int .i64 0, .int .i64 0, .int .i64 0, .int .u64 0] 33) k3
        replace k4 := cell_alloc (o := .cells #[.int .i64 0, .int .u64 0, .int .i64 0, .int .i64 0, .int .i64 0, .int .i64 0, .int .u64 0] 33) k4
        replace k5 := cell_alloc (o := .cells #[.int .i64 0, .int .u64 0, .int .i64 0, .int .i64 0, .int .i64 0, .int .i64 0, .int .u64 0] 33) k5
        replace k6 := cell_alloc (o := .cells #[.int .i64 0, .int .u64 0, .int .i64 0, .int .i64 0, .int .i64 0, .int .i64 0, .int .u64 0] 33) k6
        replace k7 := cell_alloc (o := .cells #[.int .i64 0, .int .u64 0, .int .i64 0, .int .i64 0, .int .i64 0, .int .i64 0, .int .u64 0] 33) k7
        replace k8 := cell_alloc (o := .cells #[.int .i64 0, .int .u64 0, .int .i64 0, .int .i64 0, .int .i64 0, .int .i64 0, .int .u64 0] 33) k8
        replace k9 := cell_alloc (o := .cells #[.int .i64 0, .int .u64 0, .int .i64 0, .int .i64 0, .int .i64 0, .int .i64 0, .int .u64 0] 33) k9
        replace k10 := cell_alloc (o := .cells #[.int .i64 0, .int .u64 0, .int .i64 0, .int .i64 0, .int .i64 0, .int .i64 0, .int .u64 0] 33) k10
        replace k11 := cell_alloc (o := .cells #[.int .i64 0, .int .u64 0, .int .i64 0, .int .i64 0, .int .i64 0, .int .i64 0, .int .u64 0] 33) k11
        replace k12 := cell_alloc (o := .cells #[.int .i64 0, .int .u64 0, .int .i64 0, .int .i64 0, .int .i64 0, .int .i64 0, .int .u64 0] 33) k12
        replace k13 := cell_alloc (o := .cells #[.int .i64 0, .int .u64 0, .int .i64 0, .int .i64 0, .int .i64 0, .int .i64 0, .int .u64 0] 33) k13
        replace k14 := cell_alloc (o := .cells #[.int .i64 0, .int .u64 0, .int .i64 0, .int .i64 0, .int .i64 0, .int .i64 0, .int .u64 0] 33) k14
        replace k15 := cell_alloc (o := .cells #[.int .i64 0, .int .u64 0, .int .i64 0, .int .i64 0, .int .i64 0, .int .i64 0, .int .u64 0] 33) k15
        replace k16 := cell_alloc (o := .cells #[.int .i64 0, .int .u64 0, .int .i64 0, .int .i64 0, .int .i64 0, .int .i64 0, .int .u64 0] 33) k16
        replace k17 := cell_alloc (o := .cells #[.int .i64 0, .int .u64 0, .int .i64 0, .int .i64 0, .int .i64 0, .int .i64 0, .int .u64 0] 33) k17
        replace gR := block_later (below_new _ (.cells #[.int .i64 0, .int .u64 0, .int .i64 0, .int .i64 0, .int .i64 0, .int .i64 0, .int .u64 0] 33)) gR
        replace hB := below_tr hB (below_new _ (.cells #[.int .i64 0, .int .u64 0, .int .i64 0, .int .i64 0, .int .i64 0, .int .i64 0, .int .u64 0] 33))
        generalize v1.heap.size = gn at *
        generalize v1.alloc (.cells #[.int .i64 0, .int .u64 0, .int .i64 0, .int .i64 0, .int .i64 0, .int .i64 0, .int .u64 0] 33) = va at *
        refine hK.out _ _ ⟨k0, k1, k2, k3, k4, k5, k6, k7, k8, k9, k10, k11, k12, k13, k14, k15, k16, k17⟩ (fun hHelda => ?_)
        clear hK
        try simp only [Act.put, List.setIfInBounds_toArray, List.set_cons_zero, List.set_cons_succ]
        refine wpAnyH_ready (rs := [6]) (by kernel_rfl) (by simp) ?_
        refine AllReadyH.cons rfl (fun K hK => ?_) AllReadyH.nil
        go_simp
        refine (c2 _).mono ?_
        rintro e v2 ⟨rfl, hb⟩
        go_wp2_with fail
        replace k0 := cell_later hb k0
        replace k1 := cell_later hb k1
        replace k2 := cell_later hb k2
        replace k3 := cell_later hb k3
        replace k4 := cell_later hb k4
        replace k5 := cell_later hb k5
        replace k6 := cell_later hb k6
        replace k7 := cell_later hb k7
        replace k8 := cell_later hb k8
        replace k9 := cell_later hb k9
        replace k10 := cell_later hb k10
        replace k11 := cell_later hb k11
        replace k12 := cell_later hb k12
        replace k13 := cell_later hb k13
        replace k14 := cell_later hb k14
        replace k15 := cell_later hb k15
        replace k16 := cell_later hb k16
        replace k17 := cell_later hb k17
        replace gR := block_later hb gR
        replace gN := block_later hb gN
        replace hB := below_tr hB hb
        clear hb
        refine hK.out _ _ ⟨k0, k1, k2, k3, k4, k5, k6, k7, k8, k9, k10, k11, k12, k13, k14, k15, k16, k17⟩ (fun hHeldc2 => ?_)
        clear hK
        try simp only [Act.put, List.setIfInBounds_toArray, List.set_cons_zero, List.set_cons_succ]
        refine wpAnyH_ready (rs := [9]) (by kernel_rfl) (by simp) ?_
        refine AllReadyH.cons rfl (fun K hK => ?_) AllReadyH.nil
        go_simp
        refine (c3 _).mono ?_
        rintro e v3 ⟨rfl, hb⟩
        go_wp2_with fail
        replace k0 := cell_later hb k0
        replace k1 := cell_later hb k1
        replace k2 := cell_later hb k2
        replace k3 := cell_later hb k3
        replace k4 := cell_later hb k4
        replace k5 := cell_later hb k5
        replace k6 := cell_later hb k6
        replace k7 := cell_later hb k7
        replace k8 := cell_later hb k8
        replace k9 := cell_later hb k9
        replace k10 := cell_later hb k10
        replace k11 := cell_later hb k11
        replace k12 := cell_later hb k12
        replace k13 := cell_later hb k13
        replace k14 := cell_later hb k14
        replace k15 := cell_later hb k15
        replace k16 := cell_later hb k16
        replace k17 := cell_later hb k17
        replace gR := block_later hb gR
        replace gN := block_later hb gN
        replace hB := below_tr hB hb
        clear hb
        refine hK.out _ _ ⟨k0, k1, k2, k3, k4, k5, k6, k7, k8, k9, k10, k11, k12, k13, k14, k15, k16, k17⟩ (fun hHeldc3 => ?_)
        clear hK
        try simp only [Act.put, List.setIfInBounds_toArray, List.set_cons_zero, List.set_cons_succ]
        refine take_at (i := 10) (v := ?_) 20 rfl rfl (by kernel_rfl) (by kernel_rfl) (by kernel_rfl) (fun _ _ _ h => h) (Or.inl ⟨by rfl, ?_⟩) (by assumption) ?_
        rotate_left
        · (intro w' hSw; (try dsimp only at hSw); go_simp; all_goals with_reducible rfl)
        try simp only [Act.put, List.setIfInBounds_toArray, List.set_cons_zero, List.set_cons_succ]
        refine wpAnyH_ready (rs := [13]) (by kernel_rfl) (by simp) ?_
        refine AllReadyH.cons rfl (fun K hK => ?_) AllReadyH.nil
        go_simp
        refine (c4 _).mono ?_
        rintro e v4 ⟨rfl, hb⟩
        go_wp2_with fail
        replace k0 := cell_later hb k0
        replace k1 := cell_later hb k1
        replace k2 := cell_later hb k2
        replace k3 := cell_later hb k3
        replace k4 := cell_later hb k4
        replace k5 := cell_later hb k5
        replace k6 := cell_later hb k6
        replace k7 := cell_later hb k7
        replace k8 := cell_later hb k8
        replace k9 := cell_later hb k9
        replace k10 := cell_later hb k10
        replace k11 := cell_later hb k11
        replace k12 := cell_later hb k12
        replace k13 := cell_later hb k13
        replace k14 := cell_later hb k14
        replace k15 := cell_later hb k15
        replace k16 := cell_later hb k16
        replace k17 := cell_later hb k17
        replace gR := block_later hb gR
        replace gN := block_later hb gN
        replace hB := below_tr hB hb
        clear hb
        refine hK.out _ _ ⟨k0, k1, k2, k3, k4, k5, k6, k7, k8, k9, k10, k11, k12, k13, k14, k15, k16, k17⟩ (fun hHeldc4 => ?_)
        clear hK
        try simp only [Act.put, List.setIfInBounds_toArray, List.set_cons_zero, List.set_cons_succ]
        refine take_at (i := 14) (v := ?_) 24 rfl rfl (by kernel_rfl) (by kernel_rfl) (by kernel_rfl) (fun _ _ _ h => h) (Or.inl ⟨by rfl, ?_⟩) (by assumption) ?_
        rotate_left
        · (intro w' hSw; (try dsimp only at hSw); go_simp; all_goals with_reducible rfl)
        try simp only [Act.put, List.setIfInBounds_toArray, List.set_cons_zero, List.set_cons_succ]
        refine wpAnyH_ready (rs := [17]) (by kernel_rfl) (by simp) ?_
        refine AllReadyH.cons rfl (fun K hK => ?_) AllReadyH.nil
        go_simp
        refine (c5 _).mono ?_
        rintro e v5 ⟨rfl, hb⟩
        go_wp2_with fail
        replace k0 := cell_later hb k0
        replace k1 := cell_later hb k1
        replace k2 := cell_later hb k2
        replace k3 := cell_later hb k3
        replace k4 := cell_later hb k4
        replace k5 := cell_later hb k5
        replace k6 := cell_later hb k6
        replace k7 := cell_later hb k7
        replace k8 := cell_later hb k8
        replace k9 := cell_later hb k9
        replace k10 := cell_later hb k10
        replace k11 := cell_later hb k11
        replace k12 := cell_later hb k12
        replace k13 := cell_later hb k13
        replace k14 := cell_later hb k14
        replace k15 := cell_later hb k15
        replace k16 := cell_later hb k16
        replace k17 := cell_later hb k17
        replace gR := block_later hb gR
        replace gN := block_later hb gN
        replace hB := below_tr hB hb
        clear hb
        refine hK.out _ _ ⟨k0, k1, k2, k3, k4, k5, k6, k7, k8, k9, k10, k11, k12, k13, k14, k15, k16, k17⟩ (fun hHeldc5 => ?_)
        clear hK
        try simp only [Act.put, List.setIfInBounds_toArray, List.set_cons_zero, List.set_cons_succ]
        refine take_at (i := 18) (v := ?_) 28 rfl rfl (by kernel_rfl) (by kernel_rfl) (by kernel_rfl) (fun _ _ _ h => h) (Or.inl ⟨by rfl, ?_⟩) (by assumption) ?_
        rotate_left
        · (intro w' hSw; (try dsimp only at hSw); go_simp; all_goals with_reducible rfl)
        try simp only [Act.put, List.setIfInBounds_toArray, List.set_cons_zero, List.set_cons_succ]
        refine wpAnyH_ready (rs := [21]) (by kernel_rfl) (by simp) ?_
        refine AllReadyH.cons rfl (fun K hK => ?_) AllReadyH.nil
        go_simp
        refine (c6 _).mono ?_
        rintro e v6 ⟨rfl, hb⟩
        go_wp2_with fail
        replace k0 := cell_later hb k0
        replace k1 := cell_later hb k1
        replace k2 := cell_later hb k2
        replace k3 := cell_later hb k3
        replace k4 := cell_later hb k4
        replace k5 := cell_later hb k5
        replace k6 := cell_later hb k6
        replace k7 := cell_later hb k7
        replace k8 := cell_later hb k8
        replace k9 := cell_later hb k9
        replace k10 := cell_later hb k10
        replace k11 := cell_later hb k11
        replace k12 := cell_later hb k12
        replace k13 := cell_later hb k13
        replace k14 := cell_later hb k14
        replace k15 := cell_later hb k15
        replace k16 := cell_later hb k16
        replace k17 := cell_later hb k17
        replace gR := block_later hb gR
        replace gN := block_later hb gN
        replace hB := below_tr hB hb
        clear hb
        refine hK.out _ _ ⟨k0, k1, k2, k3, k4, k5, k6, k7, k8, k9, k10, k11, k12, k13, k14, k15, k16, k17⟩ (fun hHeldc6 => ?_)
        clear hK
        try simp only [Act.put, List.setIfInBounds_toArray, List.set_cons_zero, List.set_cons_succ]
        refine take_at (i := 22) (v := ?_) 32 rfl rfl (by kernel_rfl) (by kernel_rfl) (by kernel_rfl) (fun _ _ _ h => h) (Or.inl ⟨by rfl, ?_⟩) (by assumption) ?_
        rotate_left
        · (intro w' hSw; (try dsimp only at hSw); go_simp; all_goals with_reducible rfl)
        try simp only [Act.put, List.setIfInBounds_toArray, List.set_cons_zero, List.set_cons_succ]
        refine take_at (i := 24) (v := ?_) 34 rfl rfl (by kernel_rfl) (by kernel_rfl) (by kernel_rfl) (fun _ _ _ h => h) (Or.inl ⟨by rfl, ?_⟩) (by assumption) ?_
        rotate_left
        · (intro w' hSw; (try dsimp only at hSw); go_simp; all_goals with_reducible rfl)
        try simp only [Act.put, List.setIfInBounds_toArray, List.set_cons_zero, List.set_cons_succ]
        refine wpAnyH_ready (rs := [26]) (by kernel_rfl) (by simp) ?_
        refine AllReadyH.cons rfl (fun K hK => ?_) AllReadyH.nil
        refine step_store_seg rfl rfl 33 _ _ rfl (gn) 0 _ #[.int .i64 (nK : Nat), .int .u64 (nA : Nat), .int .i64 (nB : Nat), .int .i64 (nR : Nat), .int .i64 (nG : Nat), .int .i64 (nS : Nat), .int .u64 (y : Nat)] rfl rfl rfl 33 _ gN (show 0 + 7 ≤ 7 by decide) info7 (by simp [Value.oneCell']) #[.int .i64 (nK : Nat), .int .u64 (nA : Nat), .int .i64 (nB : Nat), .int .i64 (nR : Nat), .int .i64 (nG : Nat), .int .i64 (nS : Nat), .int .u64 (y : Nat)] rfl ?_
        intro wsz hrq htq
        replace k0 := turn_cell htq (by omega) k0
        replace k1 := turn_cell htq (by omega) k1
        replace k2 := turn_cell htq (by omega) k2
        replace k3 := turn_cell htq (by omega) k3
        replace k4 := turn_cell htq (by omega) k4
        replace k5 := turn_cell htq (by omega) k5
        replace k6 := turn_cell htq (by omega) k6
        replace k7 := turn_cell htq (by omega) k7
        replace k8 := turn_cell htq (by omega) k8
        replace k9 := turn_cell htq (by omega) k9
        replace k10 := turn_cell htq (by omega) k10
        replace k11 := turn_cell htq (by omega) k11
        replace k12 := turn_cell htq (by omega) k12
        replace k13 := turn_cell htq (by omega) k13
        replace k14 := turn_cell htq (by omega) k14
        replace k15 := turn_cell htq (by omega) k15
        replace k16 := turn_cell htq (by omega) k16
        replace k17 := turn_cell htq (by omega) k17
        replace gR := block_turn htq gR (by omega)
        replace gN := hrq
        replace hB := below_turn hB htq (by omega)
        refine hK.out _ _ ⟨k0, k1, k2, k3, k4, k5, k6, k7, k8, k9, k10, k11, k12, k13, k14, k15, k16, k17⟩ (fun hHeldsz => ?_)
        clear hK hrq
        try simp only [Act.put, List.setIfInBounds_toArray, List.set_cons_zero, List.set_cons_succ]
        refine wpAnyH_done (by kernel_rfl) ?_ _
        refine NoPanic.normal ?_
        go_wp2_with fail
        go_meet
        exact ⟨gn, rfl, hgn, hB, gR, gN⟩
    · go_simp
      have gN := heap_alloc_new Wd (.cells #[.int .i64 0, .int .u64 0, .int .i64 0, .int .i64 0, .int .i64 0, .int .i64 0, .int .u64 0] 33)
      have hgn : w.heap.size < Wd.heap.size := block_lt gR
      replace k0 := cell_alloc (o := .cells #[.int .i64 0, .int .u64 0, .int .i64 0, .int .i64 0, .int .i64 0, .int .i64 0, .int .u64 0] 33) k0
      replace k1 := cell_alloc (o := .cells #[.int .i64 0, .int .u64 0, .int .i64 0, .int .i64 0, .int .i64 0, .int .i64 0, .int .u64 0] 33) k1
      replace k2 := cell_alloc (o := .cells #[.int .i64 0, .int .u64 0, .int .i64 0, .int .i64 0, .int .i64 0, .int .i64 0, .int .u64 0] 33) k2
      replace k3 := cell_alloc (o := .cells #[.int .i64 0, .int .u64 0, .int .i64 0, .int .i64 0, .int .i64 0, .int .i64 0, .int .u64 0] 33) k3
      replace k4 := cell_alloc (o := .cells #[.int .i64 0, .int .u64 0, .int .i64 0, .int .i64 0, .int .i64 0, .int .i64 0, .int .u64 0] 33) k4
      replace k5 := cell_alloc (o := .cells #[.int .i64 0, .int .u64 0, .int .i64 0, .int .i64 0, .int .i64 0, .int .i64 0, .int .u64 0] 33) k5
      replace k6 := cell_alloc (o := .cells #[.int .i64 0, .int .u64 0, .int .i64 0, .int .i64 0, .int .i64 0, .int .i64 0, .int .u64 0] 33) k6
      replace k7 := cell_alloc (o := .cells #[.int .i64 0, .int .u64 0, .int .i64 0, .int .i64 0, .int .i64 0, .int .i64 0, .int .u64 0] 33) k7
      replace k8 := cell_alloc (o := .cells #[.int .i64 0, .int .u64 0, .int .i64 0, .int .i64 0, .int .i64 0, .int .i64 0, .int .u64 0] 33) k8
      replace k9 := cell_alloc (o := .cells #[.int .i64 0, .int .u64 0, .int .i64 0, .int .i64 0, .int .i64 0, .int .i64 0, .int .u64 0] 33) k9
      replace k10 := cell_alloc (o := .cells #[.int .i64 0, .int .u64 0, .int .i64 0, .int .i64 0, .int .i64 0, .int .i64 0, .int .u64 0] 33) k10
      replace k11 := cell_alloc (o := .cells #[.int .i64 0, .int .u64 0, .int .i64 0, .int .i64 0, .int .i64 0, .int .i64 0, .int .u64 0] 33) k11
      replace k12 := cell_alloc (o := .cells #[.int .i64 0, .int .u64 0, .int .i64 0, .int .i64 0, .int .i64 0, .int .i64 0, .int .u64 0] 33) k12
      replace k13 := cell_alloc (o := .cells #[.int .i64 0, .int .u64 0, .int .i64 0, .int .i64 0, .int .i64 0, .int .i64 0, .int .u64 0] 33) k13
      replace k14 := cell_alloc (o := .cells #[.int .i64 0, .int .u64 0, .int .i64 0, .int .i64 0, .int .i64 0, .int .i64 0, .int .u64 0] 33) k14
      replace k15 := cell_alloc (o := .cells #[.int .i64 0, .int .u64 0, .int .i64 0, .int .i64 0, .int .i64 0, .int .i64 0, .int .u64 0] 33) k15
      replace k16 := cell_alloc (o := .cells #[.int .i64 0, .int .u64 0, .int .i64 0, .int .i64 0, .int .i64 0, .int .i64 0, .int .u64 0] 33) k16
      replace k17 := cell_alloc (o := .cells #[.int .i64 0, .int .u64 0, .int .i64 0, .int .i64 0, .int .i64 0, .int .i64 0, .int .u64 0] 33) k17
      replace gR := block_later (below_new _ (.cells #[.int .i64 0, .int .u64 0, .int .i64 0, .int .i64 0, .int .i64 0, .int .i64 0, .int .u64 0] 33)) gR
      replace hB := below_tr hB (below_new _ (.cells #[.int .i64 0, .int .u64 0, .int .i64 0, .int .i64 0, .int .i64 0, .int .i64 0, .int .u64 0] 33))
      generalize Wd.heap.size = gn at *
      generalize Wd.alloc (.cells #[.int .i64 0, .int .u64 0, .int .i64 0, .int .i64 0, .int .i64 0, .int .i64 0, .int .u64 0] 33) = va at *
      refine hK.out _ _ ⟨k0, k1, k2, k3, k4, k5, k6, k7, k8, k9, k10, k11, k12, k13, k14, k15, k16, k17⟩ (fun hHelda => ?_)
      clear hK
      try simp only [Act.put, List.setIfInBounds_toArray, List.set_cons_zero, List.set_cons_succ]
      refine wpAnyH_ready (rs := [2]) (by kernel_rfl) (by simp) ?_
      refine AllReadyH.cons rfl (fun K hK => ?_) AllReadyH.nil
      go_simp
      refine (c1 _).mono ?_
      rintro e v1 ⟨rfl, hb⟩
      go_wp2_with fail
      replace k0 := cell_later hb k0
      replace k1 := cell_later hb k1
      replace k2 := cell_later hb k2
      replace k3 := cell_later hb k3
      replace k4 := cell_later hb k4
      replace k5 := cell_later hb k5
      replace k6 := cell_later hb k6
      replace k7 := cell_later hb k7
      replace k8 := cell_later hb k8
      replace k9 := cell_later hb k9
      replace k10 := cell_later hb k10
      replace k11 := cell_later hb k11
      replace k12 := cell_later hb k12
      replace k13 := cell_later hb k13
      replace k14 := cell_later hb k14
      replace k15 := cell_later hb k15
      replace k16 := cell_later hb k16
      replace k17 := cell_later hb k17
      replace gR := block_later hb gR
      replace gN := block_later hb gN
      replace hB := below_tr hB hb
      clear hb
      refine hK.out _ _ ⟨k0, k1, k2, k3, k4, k5, k6, k7, k8, k9, k10, k11, k12, k13, k14, k15, k16, k17⟩ (fun hHeldc1 => ?_)
      clear hK
      try simp only [Act.put, List.setIfInBounds_toArray, List.set_cons_zero, List.set_cons_succ]
      refine take_at (i := 3) (v := ?_) 13 rfl rfl (by kernel_rfl) (by kernel_rfl) (by kernel_rfl) (fun _ _ _ h => h) (Or.inl ⟨by rfl, ?_⟩) (by assumption) ?_
      rotate_left
      · (intro w' hSw; (try dsimp only at hSw); go_simp; all_goals with_reducible rfl)
      try simp only [Act.put, List.setIfInBounds_toArray, List.set_cons_zero, List.set_cons_succ]
      refine wpAnyH_ready (rs := [6]) (by kernel_rfl) (by simp) ?_
      refine AllReadyH.cons rfl (fun K hK => ?_) AllReadyH.nil
      go_simp
      refine (c2 _).mono ?_
      rintro e v2 ⟨rfl, hb⟩
      go_wp2_with fail
      replace k0 := cell_later hb k0
      replace k1 := cell_later hb k1
      replace k2 := cell_later hb k2
      replace k3 := cell_later hb k3
      replace k4 := cell_later hb k4
      replace k5 := cell_later hb k5
      replace k6 := cell_later hb k6
      replace k7 := cell_later hb k7
      replace k8 := cell_later hb k8
      replace k9 := cell_later hb k9
      replace k10 := cell_later hb k10
      replace k11 := cell_later hb k11
      replace k12 := cell_later hb k12
      replace k13 := cell_later hb k13
      replace k14 := cell_later hb k14
      replace k15 := cell_later hb k15
      replace k16 := cell_later hb k16
      replace k17 := cell_later hb k17
      replace gR := block_later hb gR
      replace gN := block_later hb gN
      replace hB := below_tr hB hb
      clear hb
      refine hK.out _ _ ⟨k0, k1, k2, k3, k4, k5, k6, k7, k8, k9, k10, k11, k12, k13, k14, k15, k16, k17⟩ (fun hHeldc2 => ?_)
      clear hK
      try simp only [Act.put, List.setIfInBounds_toArray, List.set_cons_zero, List.set_cons_succ]
      refine wpAnyH_ready (rs := [9]) (by kernel_rfl) (by simp) ?_
      refine AllReadyH.cons rfl (fun K hK => ?_) AllReadyH.nil
      go_simp
      refine (c3 _).mono ?_
      rintro e v3 ⟨rfl, hb⟩
      go_wp2_with fail
      replace k0 := cell_later hb k0
      replace k1 := cell_later hb k1
      replace k2 := cell_later hb k2
      replace k3 := cell_later hb k3
      replace k4 := cell_later hb k4
      replace k5 := cell_later hb k5
      replace k6 := cell_later hb k6
      replace k7 := cell_later hb k7
      replace k8 := cell_later hb k8
      replace k9 := cell_later hb k9
      replace k10 := cell_later hb k10
      replace k11 := cell_later hb k11
      replace k12 := cell_later hb k12
      replace k13 := cell_later hb k13
      replace k14 := cell_later hb k14
      replace k15 := cell_later hb k15
      replace k16 := cell_later hb k16
      replace k17 := cell_later hb k17
      replace gR := block_later hb gR
      replace gN := block_later hb gN
      replace hB := below_tr hB hb
      clear hb
      refine hK.out _ _ ⟨k0, k1, k2, k3, k4, k5, k6, k7, k8, k9, k10, k11, k12, k13, k14, k15, k16, k17⟩ (fun hHeldc3 => ?_)
      clear hK
      try simp only [Act.put, List.setIfInBounds_toArray, List.set_cons_zero, List.set_cons_succ]
      refine take_at (i := 10) (v := ?_) 20 rfl rfl (by kernel_rfl) (by kernel_rfl) (by kernel_rfl) (fun _ _ _ h => h) (Or.inl ⟨by rfl, ?_⟩) (by assumption) ?_
      rotate_left
      · (intro w' hSw; (try dsimp only at hSw); go_simp; all_goals with_reducible rfl)
      try simp only [Act.put, List.setIfInBounds_toArray, List.set_cons_zero, List.set_cons_succ]
      refine wpAnyH_ready (rs := [13]) (by kernel_rfl) (by simp) ?_
      refine AllReadyH.cons rfl (fun K hK => ?_) AllReadyH.nil
      go_simp
      refine (c4 _).mono ?_
      rintro e v4 ⟨rfl, hb⟩
      go_wp2_with fail
      replace k0 := cell_later hb k0
      replace k1 := cell_later hb k1
      replace k2 := cell_later hb k2
      replace k3 := cell_later hb k3
      replace k4 := cell_later hb k4
      replace k5 := cell_later hb k5
      replace k6 := cell_later hb k6
      replace k7 := cell_later hb k7
      replace k8 := cell_later hb k8
      replace k9 := cell_later hb k9
      replace k10 := cell_later hb k10
      replace k11 := cell_later hb k11
      replace k12 := cell_later hb k12
      replace k13 := cell_later hb k13
      replace k14 := cell_later hb k14
      replace k15 := cell_later hb k15
      replace k16 := cell_later hb k16
      replace k17 := cell_later hb k17
      replace gR := block_later hb gR
      replace gN := block_later hb gN
      replace hB := below_tr hB hb
      clear hb
      refine hK.out _ _ ⟨k0, k1, k2, k3, k4, k5, k6, k7, k8, k9, k10, k11, k12, k13, k14, k15, k16, k17⟩ (fun hHeldc4 => ?_)
      clear hK
      try simp only [Act.put, List.setIfInBounds_toArray, List.set_cons_zero, List.set_cons_succ]
      refine take_at (i := 14) (v := ?_) 24 rfl rfl (by kernel_rfl) (by kernel_rfl) (by kernel_rfl) (fun _ _ _ h => h) (Or.inl ⟨by rfl, ?_⟩) (by assumption) ?_
      rotate_left
      · (intro w' hSw; (try dsimp only at hSw); go_simp; all_goals with_reducible rfl)
      try simp only [Act.put, List.setIfInBounds_toArray, List.set_cons_zero, List.set_cons_succ]
      refine wpAnyH_ready (rs := [17]) (by kernel_rfl) (by simp) ?_
      refine AllReadyH.cons rfl (fun K hK => ?_) AllReadyH.nil
      go_simp
      refine (c5 _).mono ?_
      rintro e v5 ⟨rfl, hb⟩
      go_wp2_with fail
      replace k0 := cell_later hb k0
      replace k1 := cell_later hb k1
      replace k2 := cell_later hb k2
      replace k3 := cell_later hb k3
      replace k4 := cell_later hb k4
      replace k5 := cell_later hb k5
      replace k6 := cell_later hb k6
      replace k7 := cell_later hb k7
      replace k8 := cell_later hb k8
      replace k9 := cell_later hb k9
      replace k10 := cell_later hb k10
      replace k11 := cell_later hb k11
      replace k12 := cell_later hb k12
      replace k13 := cell_later hb k13
      replace k14 := cell_later hb k14
      replace k15 := cell_later hb k15
      replace k16 := cell_later hb k16
      replace k17 := cell_later hb k17
      replace gR := block_later hb gR
      replace gN := block_later hb gN
      replace hB := below_tr hB hb
      clear hb
      refine hK.out _ _ ⟨k0, k1, k2, k3, k4, k5, k6, k7, k8, k9, k10, k11, k12, k13, k14, k15, k16, k17⟩ (fun hHeldc5 => ?_)
      clear hK
      try simp only [Act.put, List.setIfInBounds_toArray, List.set_cons_zero, List.set_cons_succ]
      refine take_at (i := 18) (v := ?_) 28 rfl rfl (by kernel_rfl) (by kernel_rfl) (by kernel_rfl) (fun _ _ _ h => h) (Or.inl ⟨by rfl, ?_⟩) (by assumption) ?_
      rotate_left
      · (intro w' hSw; (try dsimp only at hSw); go_simp; all_goals with_reducible rfl)
      try simp only [Act.put, List.setIfInBounds_toArray, List.set_cons_zero, List.set_cons_succ]
      refine wpAnyH_ready (rs := [21]) (by kernel_rfl) (by simp) ?_
      refine AllReadyH.cons rfl (fun K hK => ?_) AllReadyH.nil
      go_simp
      refine (c6 _).mono ?_
      rintro e v6 ⟨rfl, hb⟩
      go_wp2_with fail
      replace k0 := cell_later hb k0
      replace k1 := cell_later hb k1
      replace k2 := cell_later hb k2
      replace k3 := cell_later hb k3
      replace k4 := cell_later hb k4
      replace k5 := cell_later hb k5
      replace k6 := cell_later hb k6
      replace k7 := cell_later hb k7
      replace k8 := cell_later hb k8
      replace k9 := cell_later hb k9
      replace k10 := cell_later hb k10
      replace k11 := cell_later hb k11
      replace k12 := cell_later hb k12
      replace k13 := cell_later hb k13
      replace k14 := cell_later hb k14
      replace k15 := cell_later hb k15
      replace k16 := cell_later hb k16
      replace k17 := cell_later hb k17
      replace gR := block_later hb gR
      replace gN := block_later hb gN
      replace hB := below_tr hB hb
      clear hb
      refine hK.out _ _ ⟨k0, k1, k2, k3, k4, k5, k6, k7, k8, k9, k10, k11, k12, k13, k14, k15, k16, k17⟩ (fun hHeldc6 => ?_)
      clear hK
      try simp only [Act.put, List.setIfInBounds_toArray, List.set_cons_zero, List.set_cons_succ]
      refine take_at (i := 22) (v := ?_) 32 rfl rfl (by kernel_rfl) (by kernel_rfl) (by kernel_rfl) (fun _ _ _ h => h) (Or.inl ⟨by rfl, ?_⟩) (by assumption) ?_
      rotate_left
      · (intro w' hSw; (try dsimp only at hSw); go_simp; all_goals with_reducible rfl)
      try simp only [Act.put, List.setIfInBounds_toArray, List.set_cons_zero, List.set_cons_succ]
      refine take_at (i := 24) (v := ?_) 34 rfl rfl (by kernel_rfl) (by kernel_rfl) (by kernel_rfl) (fun _ _ _ h => h) (Or.inl ⟨by rfl, ?_⟩) (by assumption) ?_
      rotate_left
      · (intro w' hSw; (try dsimp only at hSw); go_simp; all_goals with_reducible rfl)
      try simp only [Act.put, List.setIfInBounds_toArray, List.set_cons_zero, List.set_cons_succ]
      refine wpAnyH_ready (rs := [26]) (by kernel_rfl) (by simp) ?_
      refine AllReadyH.cons rfl (fun K hK => ?_) AllReadyH.nil
      refine step_store_seg rfl rfl 33 _ _ rfl (gn) 0 _ #[.int .i64 (nK : Nat), .int .u64 (nA : Nat), .int .i64 (nB : Nat), .int .i64 (nR : Nat), .int .i64 (nG : Nat), .int .i64 (nS : Nat), .int .u64 (y : Nat)] rfl rfl rfl 33 _ gN (show 0 + 7 ≤ 7 by decide) info7 (by simp [Value.oneCell']) #[.int .i64 (nK : Nat), .int .u64 (nA : Nat), .int .i64 (nB : Nat), .int .i64 (nR : Nat), .int .i64 (nG : Nat), .int .i64 (nS : Nat), .int .u64 (y : Nat)] rfl ?_
      intro wsz hrq htq
      replace k0 := turn_cell htq (by omega) k0
      replace k1 := turn_cell htq (by omega) k1
      replace k2 := turn_cell htq (by omega) k2
      replace k3 := turn_cell htq (by omega) k3
      replace k4 := turn_cell htq (by omega) k4
      replace k5 := turn_cell htq (by omega) k5
      replace k6 := turn_cell htq (by omega) k6
      replace k7 := turn_cell htq (by omega) k7
      replace k8 := turn_cell htq (by omega) k8
      replace k9 := turn_cell htq (by omega) k9
      replace k10 := turn_cell htq (by omega) k10
      replace k11 := turn_cell htq (by omega) k11
      replace k12 := turn_cell htq (by omega) k12
      replace k13 := turn_cell htq (by omega) k13
      replace k14 := turn_cell htq (by omega) k14
      replace k15 := turn_cell htq (by omega) k15
      replace k16 := turn_cell htq (by omega) k16
      replace k17 := turn_cell htq (by omega) k17
      replace gR := block_turn htq gR (by omega)
      replace gN := hrq
      replace hB := below_turn hB htq (by omega)
      refine hK.out _ _ ⟨k0, k1, k2, k3, k4, k5, k6, k7, k8, k9, k10, k11, k12, k13, k14, k15, k16, k17⟩ (fun hHeldsz => ?_)
      clear hK hrq
      try simp only [Act.put, List.setIfInBounds_toArray, List.set_cons_zero, List.set_cons_succ]
      refine wpAnyH_done (by kernel_rfl) ?_ _
      refine NoPanic.normal ?_
      go_wp2_with fail
      go_meet
      exact ⟨gn, rfl, hgn, hB, gR, gN⟩
  case rest =>
    obtain ⟨gn, rfl, hgn, hBc, gR, gN⟩ := hcut
    have hP2 := hP.later hBc
    obtain ⟨j0, j1, j2, j3, j4, j5, j6⟩ := cells7 gN
    go_wp2_with fail
    refine (hW _ hP2).mono ?_
    rintro e w2 ⟨rfl, hb⟩
    replace gR := block_later hb gR
    replace gN := block_later hb gN
    replace hBc := below_tr hBc hb
    clear hb j0 j1 j2 j3 j4 j5 j6 hP2
    obtain ⟨j0, j1, j2, j3, j4, j5, j6⟩ := cells7 gN
    by_cases hE : E = 0
    · have dE : ((E : Int) != 0) = false := by rw [bne_eq_false_iff_eq]; exact hE
      by_cases hN : N = x
      · have dN : ((N : Int) != (x : Int)) = false := by rw [bne_eq_false_iff_eq]; omega
        have HE : Hid (rdA2 E N x #[.int .i64 (nK : Nat), .int .u64 (nA : Nat), .int .i64 (nB : Nat), .int .i64 (nR : Nat), .int .i64 (nG : Nat), .int .i64 (nS : Nat), .int .u64 (y : Nat)] = #[.int .i64 (nK : Nat), .int .u64 (nA : Nat), .int .i64 (nB : Nat), .int .i64 (nR : Nat), .int .i64 (nG : Nat), .int .i64 (nS : Nat), .int .u64 (y : Nat)] ∧ rdC2 E N x = 0) := by show _ ∧ _; unfold rdA2 rdC2; rw [if_pos ⟨hE, hN⟩, if_pos ⟨hE, hN⟩]; exact ⟨rfl, rfl⟩
        go_wp2_with (first
          | (refine wpList_store_segTo rfl 33 _ _ rfl rfl w.heap.size 0 _ #[.int .i64 (nK : Nat), .int .u64 (nA : Nat), .int .i64 (nB : Nat), .int .i64 (nR : Nat), .int .i64 (nG : Nat), .int .i64 (nS : Nat), .int .u64 (y : Nat)] rfl rfl rfl 33 _ gR (show 0 + 7 ≤ 7 by decide) info7 (by simp [Value.oneCell']) #[.int .i64 (nK : Nat), .int .u64 (nA : Nat), .int .i64 (nB : Nat), .int .i64 (nR : Nat), .int .i64 (nG : Nat), .int .i64 (nS : Nat), .int .u64 (y : Nat)] rfl ?_; intro wq hrq htq)
          | fail)
        refine bodyPost_ret (res_row_tmp rfl _ wq w.heap.size 33 #[.int .i64 (nK : Nat), .int .u64 (nA : Nat), .int .i64 (nB : Nat), .int .i64 (nR : Nat), .int .i64 (nG : Nat), .int .i64 (nS : Nat), .int .u64 (y : Nat)] (0, 0) _ rfl hrq Tryd.underlying33 rfl info7) rfl ?_
        exact ⟨by rw [HE.out.1, HE.out.2]; rfl, below_turn hBc htq (Nat.le_refl _)⟩
      · have dN : ((N : Int) != (x : Int)) = true := by rw [bne_iff_ne]; omega
        have HE : Hid (rdA2 E N x #[.int .i64 (nK : Nat), .int .u64 (nA : Nat), .int .i64 (nB : Nat), .int .i64 (nR : Nat), .int .i64 (nG : Nat), .int .i64 (nS : Nat), .int .u64 (y : Nat)] = #[.int .i64 0, .int .u64 0, .int .i64 0, .int .i64 0, .int .i64 0, .int .i64 0, .int .u64 0] ∧ rdC2 E N x = 10) := by show _ ∧ _; unfold rdA2 rdC2; rw [if_neg (fun h => hN h.2), if_neg (fun h => hN h.2)]; exact ⟨rfl, rfl⟩
        go_wp2_with (first
          | (refine wpList_store_segTo rfl 33 _ _ rfl rfl w.heap.size 0 _ #[.int .i64 0, .int .u64 0, .int .i64 0, .int .i64 0, .int .i64 0, .int .i64 0, .int .u64 0] rfl rfl rfl 33 _ gR (show 0 + 7 ≤ 7 by decide) info7 (by simp [Value.oneCell']) #[.int .i64 0, .int .u64 0, .int .i64 0, .int .i64 0, .int .i64 0, .int .i64 0, .int .u64 0] rfl ?_; intro wq hrq htq)
          | fail)
        refine bodyPost_ret (res_row_tmp rfl _ wq w.heap.size 33 #[.int .i64 0, .int .u64 0, .int .i64 0, .int .i64 0, .int .i64 0, .int .i64 0, .int .u64 0] (0, 0) _ rfl hrq Tryd.underlying33 rfl info7) rfl ?_
        exact ⟨by rw [HE.out.1, HE.out.2]; rfl, below_turn hBc htq (Nat.le_refl _)⟩
    · have dE : ((E : Int) != 0) = true := by rw [bne_iff_ne]; exact hE
      have HE : Hid (rdA2 E N x #[.int .i64 (nK : Nat), .int .u64 (nA : Nat), .int .i64 (nB : Nat), .int .i64 (nR : Nat), .int .i64 (nG : Nat), .int .i64 (nS : Nat), .int .u64 (y : Nat)] = #[.int .i64 0, .int .u64 0, .int .i64 0, .int .i64 0, .int .i64 0, .int .i64 0, .int .u64 0] ∧ rdC2 E N x = 10) := by show _ ∧ _; unfold rdA2 rdC2; rw [if_neg (fun h => hE h.1), if_neg (fun h => hE h.1)]; exact ⟨rfl, rfl⟩
      go_wp2_with (first
        | (refine wpList_store_segTo rfl 33 _ _ rfl rfl w.heap.size 0 _ #[.int .i64 0, .int .u64 0, .int .i64 0, .int .i64 0, .int .i64 0, .int .i64 0, .int .u64 0] rfl rfl rfl 33 _ gR (show 0 + 7 ≤ 7 by decide) info7 (by simp [Value.oneCell']) #[.int .i64 0, .int .u64 0, .int .i64 0, .int .i64 0, .int .i64 0, .int .i64 0, .int .u64 0] rfl ?_; intro wq hrq htq)
        | fail)
      refine bodyPost_ret (res_row_tmp rfl _ wq w.heap.size 33 #[.int .i64 0, .int .u64 0, .int .i64 0, .int .i64 0, .int .i64 0, .int .i64 0, .int .u64 0] (0, 0) _ rfl hrq Tryd.underlying33 rfl info7) rfl ?_
      exact ⟨by rw [HE.out.1, HE.out.2]; rfl, below_turn hBc htq (Nat.le_refl _)⟩

set_option maxHeartbeats 2000000 in
theorem read_any (x y : Nat) (hx : x < 18446744073709551616) (hy : y < 18446744073709551616) (w : World) (hP : Prts w) :
    Calls Tryd.prog 67 #[.int .u64 (x : Nat), .int .u64 (y : Nat)] w fun e w' => e = .returned (.tuple #[.agg (if rdOK x y = true then #[.int .i64 (rdK x : Nat), .int .u64 (rdA x : Nat), .int .i64 (rdB x : Nat), .int .i64 (rdR x : Nat), .int .i64 (rdG x : Nat), .int .i64 (rdS x : Nat), .int .u64 (y : Nat)] else #[.int .i64 0, .int .u64 0, .int .i64 0, .int .i64 0, .int .i64 0, .int .i64 0, .int .u64 0]), .int .i64 (if rdOK x y = true then 0 else 10)]) ∧ Below w.heap.size w w' := by
  have hR := rd_bounds x y hy
  cases h : cB (rdK x) (rdA x) (rdB x) (rdR x) (rdG x) (rdS x) y
  · have e : rdOK x y = false := by unfold rdOK; rw [h]; rfl
    have := read_mk x y _ _ _ _ _ _ 0 0 10 hx hy rfl rfl rfl rfl rfl rfl w hP (fun w1 _ => words_bad _ _ _ _ _ _ _ (by have := hR.qa; omega) hy h w1)
    rw [e, if_neg (by decide), if_neg (by decide)]
    exact this
  · have := read_mk x y _ _ _ _ _ _ (wordN (rdK x) (rdA x) (rdB x) (rdR x) (rdG x) (rdS x)) y 0 hx hy rfl rfl rfl rfl rfl rfl w hP (fun w1 h1 => words_ok hR h w1 h1)
    by_cases hw : wordN (rdK x) (rdA x) (rdB x) (rdR x) (rdG x) (rdS x) = x
    · have e : rdOK x y = true := by unfold rdOK; rw [h, hw]; simp
      rw [e, if_pos rfl, if_pos rfl]
      unfold rdA2 rdC2 at this
      rw [if_pos ⟨rfl, hw⟩, if_pos ⟨rfl, hw⟩] at this
      exact this
    · have e : rdOK x y = false := by unfold rdOK; rw [h, Bool.true_and, beq_eq_false_iff_ne]; exact hw
      rw [e, if_neg (by decide), if_neg (by decide)]
      unfold rdA2 rdC2 at this
      rw [if_neg (fun h => hw h.2), if_neg (fun h => hw h.2)] at this
      exact this
end Go.Proofs.YtcmndefjmhcbhaaDoor
