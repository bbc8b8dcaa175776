/- Tools for structs that lie in the middle of blocks, and for the worlds behind stores. -/
import Derived.Test.YtjhplcpaaghleaaDoorDescGood
import Derived.Test.YtjhplcpaaghleaaDoorVirtD
import Derived.Test.YtjhplcpaaghleaaDoorMemW
import Derived.Laws.CopyRow
import Derived.Deep.MidRow
namespace Go.Proofs.YtjhplcpaaghleaaDoor
open Go.RowKit Go.Maps

theorem cell_drw {w : World} {a : Addr} {v : Value} (h : w.cell? a = some v) : w.drew.cell? a = some v := cell_later (Below.refl _ _).drew h
theorem block_lt {w : World} {g : Nat} {o : Obj} (h : w.heap[g]? = some o) : g < w.heap.size := (Array.getElem?_eq_some_iff.1 h).1
theorem block_later {w w' : World} {g : Nat} {o : Obj} (hb : Below w.heap.size w w') (h : w.heap[g]? = some o) : w'.heap[g]? = some o := (hb.block _ (block_lt h)).trans h
theorem block_turn {w w' : World} {b g : Nat} {o : Obj} (ht : Turn (fun i => i = b) w w') (h : w.heap[g]? = some o) (hne : g ≠ b) : w'.heap[g]? = some o := (ht.block _ (block_lt h) hne).trans h
theorem turn_setRow (w : World) (g : Nat) (cs : Array Value) : Turn (fun i => i = g) w (w.setRow g cs) := ⟨rfl, rfl, rfl, by simp, fun i _ hne => setRow_other w g i cs hne⟩
theorem below_turn {w0 w w' : World} {b : Nat} (hB : Below w0.heap.size w0 w) (ht : Turn (fun i => i = b) w w') (hb : w0.heap.size ≤ b) : Below w0.heap.size w0 w' :=
  hB.trans (ht.below (fun i (hi : i = b) => by subst hi; exact hb) hB.size)

/-- Some cells of a row, changed. -/
def segA (cs : Array Value) (o : Nat) (vs : List Value) : Array Value := (cs.toList.take o ++ vs ++ cs.toList.drop (o + vs.length)).toArray

section
variable {P : Program} {ops : Array Oper} {rest : List Oper} {op : Oper} {a : Act} {w : World} {Q : Exit → Act → World → Prop}
theorem wpList_store_seg (hgd : op.guard = none) (ty : TypeId) (x y : Operand) (ho : op.op = .store ty x y)
    (g o : Nat) (v : Value) (cells : Array Value) (hx : a.eval x = .pointer (some ⟨g, o, none⟩)) (hy : a.eval y = v) (hc : v.cells = cells)
    (t : TypeId) (cur : Array Value) (hg : w.heap[g]? = some (.cells cur t (0, 0))) (hfit : o + cells.size ≤ cur.size) (hi : (P.info? ty).map (·.size) = some cells.size) (h1 : cells.all (·.oneCell') = true)
    (new : Array Value) (hnew : segA cur o cells.toList = new)
    (h : ∀ wq, wq.heap[g]? = some (.cells new t (0, 0)) → Turn (fun i => i = g) w wq → wpList P ops Q rest (a.put op.dst undef) wq) : wpList P ops Q (op :: rest) a w := by
  have hst := run_storeCells_at P g o t cells.toList 0 cur w hg (by simpa using hfit) (fun v hv => (Array.all_eq_true_iff_forall_mem.1 h1) v (by simpa using hv))
  have hsv : (storeVar ty ⟨g, o, none⟩ v).run P w = .ok () (w.setRow g new) := by
    cases hq : P.info? ty with
    | none => simp [hq] at hi
    | some i =>
      have hs : cells.size = i.size := by simp [hq] at hi; omega
      simp only [Nat.add_zero] at hst
      rw [← hnew]
      simp [storeVar, sizeOf, typeInfo, hq, hc, hs, hst, segA]
  refine wpList_plain hgd fun _ hK => ?_
  unfold Oper.wp execOp
  simp only [ho, hx, hy, Instr.storeAt, Instr.sureAddr, Sem.run_bind, Sem.run_pure, Result.andThen_ok, hsv]
  exact hK _ _ (h _ (setRow_heap _ _ _ _ _ _ hg) (turn_setRow _ _ _))

theorem wpList_load_seg (hgd : op.guard = none) (ty : TypeId) (x : Operand) (ho : op.op = .load ty x)
    (g o : Nat) (hx : a.eval x = .pointer (some ⟨g, o, none⟩)) (t : TypeId) (cur : Array Value) (hg : w.heap[g]? = some (.cells cur t (0, 0)))
    (cs : List Value) (hcs : ∀ j v, cs[j]? = some v → cur[o + j]? = some v) (d : TypeDesc)
    (hu : P.underlying ty = some d) (hd : d.isRow = true) (hi : (P.info? ty).map (·.size) = some cs.length)
    (h : wpList P ops Q rest (a.put op.dst (.agg cs.toArray)) w) : wpList P ops Q (op :: rest) a w :=
  wpList_load_mid hgd ty x ho g o hx cs d (fun j v hv => by rw [cell_of_row w g (o + j) cur t (0, 0) hg]; exact hcs j v hv) hu hd hi h
end

theorem results_cell_cell {fn : Func} {p u : Tmp} {ty ty' : TypeId} (h : fn.results = #[.cell p ty, .cell u ty']) (tmps : Array Value) (P : Program) (w : World) :
    (results fn tmps).run P w =
      ((asAddr (tmps.getD p undef)).run P w).andThen fun a w₁ => ((loadVar ty a).run P w₁).andThen fun v w₂ => ((asAddr (tmps.getD u undef)).run P w₂).andThen fun a' w₃ => ((loadVar ty' a').run P w₃).andThen fun v' w₄ => .ok (.tuple #[v, v']) w₄ := by
  simp only [results, h]
  simp [Sem.run_bind, Result.andThen]

theorem results_row_row {P : Program} {fn : Func} {p q : Tmp} {ty ty' : TypeId} (h : fn.results = #[.cell p ty, .cell q ty']) (tmps : Array Value) (w : World) (g g' : Nat) (t t' : TypeId) (cs cs' : Array Value) (fr fr' : Nat × Nat) (d d' : TypeDesc)
    (hp : tmps.getD p undef = .pointer (some ⟨g, 0, none⟩)) (hg : w.heap[g]? = some (.cells cs t fr))
    (hu : P.underlying ty = some d) (hd : (match d with | .struct _ | .array _ _ => true | _ => false) = true) (hi : (P.info? ty).map (·.size) = some cs.size)
    (hq : tmps.getD q undef = .pointer (some ⟨g', 0, none⟩)) (hg' : w.heap[g']? = some (.cells cs' t' fr'))
    (hu' : P.underlying ty' = some d') (hd' : (match d' with | .struct _ | .array _ _ => true | _ => false) = true) (hi' : (P.info? ty').map (·.size) = some cs'.size) :
    (results fn tmps).run P w = .ok (.tuple #[.agg cs, .agg cs']) w := by
  rw [results_cell_cell h, hp, hq]
  simp [asAddr, run_loadVar_row w g t ty cs fr d hg hu hd hi, run_loadVar_row w g' t' ty' cs' fr' d' hg' hu' hd' hi', Result.andThen]

/-! ### the walk in plain Lean -/
/-- The fault that a walk ends with at a word of a level's table: 0 if none. -/
def mf (S : Nat) (l : Int) (x : Nat) : Int := if goodD l x = false then 4 else if rdK l x = 0 then 1 else if rdK l x ≠ 1 ∧ S < rdO x + 2 ^ lowK l then 4 else 0

/-- A walk from a table of the level 3 - k: the words read; the fault's kind (0: a leaf), the level, the leaf's word. -/
def wk (S : Nat) (f : Nat → Nat) (va : Nat) : Nat → Nat → List (Nat × Nat) × Int × Int × Nat
  | 0, _ => ([], 1, 0, 0)
  | k + 1, tb =>
    let t := tb + 8 * idxN va (3 - k)
    if errA S t ≠ 0 then ([], 4, 3 - k, 0)
    else if mf S (3 - k) (f t) ≠ 0 then ([(t, f t)], mf S (3 - k) (f t), 3 - k, 0)
    else if rdK (3 - k) (f t) ≠ 1 then ([(t, f t)], 0, 3 - k, f t)
    else ((t, f t) :: (wk S f va k (rdO (f t))).1, (wk S f va k (rdO (f t))).2)

section
variable {S : Nat} {f : Nat → Nat} {va k tb t x : Nat} {l : Int}
theorem wk_err (hl : l = 3 - k) (ht : t = tb + 8 * idxN va l) (he : errA S t ≠ 0) : wk S f va (k + 1) tb = ([], 4, l, 0) := by
  subst hl ht; unfold wk; simp only; rw [if_pos he]
theorem wk_fault (hl : l = 3 - k) (ht : t = tb + 8 * idxN va l) (he : errA S t = 0) (hm : mf S l (f t) ≠ 0) : wk S f va (k + 1) tb = ([(t, f t)], mf S l (f t), l, 0) := by
  subst hl ht; unfold wk; simp only; rw [if_neg (fun c => c he), if_pos hm]
theorem wk_leaf (hl : l = 3 - k) (ht : t = tb + 8 * idxN va l) (he : errA S t = 0) (hm : mf S l (f t) = 0) (hk : rdK l (f t) ≠ 1) : wk S f va (k + 1) tb = ([(t, f t)], 0, l, f t) := by
  subst hl ht; unfold wk; simp only; rw [if_neg (fun c => c he), if_neg (fun c => c hm), if_pos hk]
theorem wk_table (hl : l = 3 - k) (ht : t = tb + 8 * idxN va l) (he : errA S t = 0) (hm : mf S l (f t) = 0) (hk : rdK l (f t) = 1) :
    wk S f va (k + 1) tb = ((t, f t) :: (wk S f va k (rdO (f t))).1, (wk S f va k (rdO (f t))).2) := by
  subst hl ht
  conv => lhs; unfold wk
  simp only
  rw [if_neg (fun c => c he), if_neg (fun c => c hm), if_neg (fun c => c hk)]
end

/-- A walk from a table of any level at any address. -/
def wk0 (S : Nat) (f : Nat → Nat) (l : Int) (tb va : Nat) : List (Nat × Nat) × Int × Int × Nat :=
  if isLv l = true ∧ tb % 4096 = 0 ∧ va < 281474976710656 then wk S f va (4 - l).toNat tb else ([], 1, 0, 0)

/-! ### a walk's result as cells -/
def d7 (l : Int) (x : Nat) : List Value := [.int .i64 (rdK l x), .int .u64 (rdO x : Nat), .bool (rdU l x), .bool (rdR l x), .bool (rdX l x), .bool (rdS l x), .int .i64 (rdA l x)]
theorem rdV_d7 (l : Int) (x : Nat) : rdV l x = .agg (d7 l x).toArray := rfl
def zD : List Value := [.int .i64 0, .int .u64 0, .bool false, .bool false, .bool false, .bool false, .int .i64 0]
def zL : List Value := .int .i64 0 :: zD
def zF : List Value := [.int .i64 0, .int .i64 0]
def leafL (r : Int × Int × Nat) : List Value := if r.1 = 0 then .int .i64 r.2.1 :: d7 r.2.1 r.2.2 else zL
def faultL (r : Int × Int × Nat) : List Value := if r.1 = 0 then zF else [.int .i64 r.1, .int .i64 r.2.1]
theorem leafL_len (r : Int × Int × Nat) : (leafL r).length = 8 := by unfold leafL; split <;> rfl
theorem faultL_len (r : Int × Int × Nat) : (faultL r).length = 2 := by unfold faultL; split <;> rfl
theorem leafL_one (r : Int × Int × Nat) : (leafL r).toArray.all (·.oneCell') = true := all_oneCell_toArray (by unfold leafL; split <;> simp [d7, zL, zD, Value.oneCell'])
theorem faultL_one (r : Int × Int × Nat) : (faultL r).toArray.all (·.oneCell') = true := all_oneCell_toArray (by unfold faultL; split <;> simp [zF, Value.oneCell'])
end Go.Proofs.YtjhplcpaaghleaaDoor
