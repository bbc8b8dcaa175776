/- Texts: Segs -/
import Derived.WalkKit
import Derived.WalkSpells
import Derived.WalkLawsBesides
import Derived.Deep.WholeRow
import Derived.Laws.CopyOwn
import Derived.Laws.CopyRow
import Derived.Deep.MidRow
import Derived.Deep.DeepCutAuto
import Derived.Deep.RegionHeld
set_option maxHeartbeats 16000000
set_option maxRecDepth 100000
namespace Go.Proofs.YtfohjkgheeiinaaGreatDoor
open Go.RowKit
theorem Hid.mk {p : Prop} (h : p) : Hid p := h
structure Turn (X : Nat → Prop) (w w' : World) : Prop where
 os : w'.os = w.os
 tape : w'.tape = w.tape
 output : w'.output = w.output
 size : w.heap.size ≤ w'.heap.size
 block : ∀ i, i < w.heap.size → ¬ X i → w'.heap[i]? = w.heap[i]?
theorem Turn.refl (X : Nat → Prop) (w : World) : Turn X w w := ⟨rfl, rfl, rfl, Nat.le_refl _, fun _ _ _ => rfl⟩
theorem Turn.trans {X Y : Nat → Prop} {w w1 w2 : World} (h : Turn X w w1) (k : Turn Y w1 w2) (hY : ∀ i, i < w.heap.size → Y i → X i) : Turn X w w2 :=
 ⟨k.os.trans h.os, k.tape.trans h.tape, k.output.trans h.output, Nat.le_trans h.size k.size, fun i hi hX => (k.block i (Nat.lt_of_lt_of_le hi h.size) fun hy => hX (hY i hi hy)).trans (h.block i hi hX)⟩
theorem Turn.below {X : Nat → Prop} {w w' : World} {lo : Nat} (h : Turn X w w') (hX : ∀ i, X i → lo ≤ i) (hlo : lo ≤ w.heap.size) : Below lo w w' :=
 ⟨h.os, h.tape, h.output, h.size, fun k hk => h.block k (Nat.lt_of_lt_of_le hk hlo) fun hx => by have := hX k hx; omega⟩
theorem turn_of_below (X : Nat → Prop) {w w' : World} (h : Below w.heap.size w w') : Turn X w w' :=
 ⟨h.os, h.tape, h.output, h.size, fun i hi _ => h.block i hi⟩
theorem turn_of_grown {w w' : World} {b : Nat} {X : Nat → Prop} (h : w.grownBy w' (some b)) (hb : X b) : Turn X w w' :=
 ⟨h.os, h.tape, h.output, h.size, fun i hi hX => h.block i hi fun e => hX (by cases e; exact hb)⟩
theorem block_lt {w : World} {g : Nat} {o : Obj} (h : w.heap[g]? = some o) : g < w.heap.size := (Array.getElem?_eq_some_iff.1 h).1
theorem block_later {w w' : World} {g : Nat} {o : Obj} (hb : Below w.heap.size w w') (h : w.heap[g]? = some o) : w'.heap[g]? = some o := (hb.block _ (block_lt h)).trans h
theorem block_turn {w w' : World} {b g : Nat} {o : Obj} (ht : Turn (fun i => i = b) w w') (h : w.heap[g]? = some o) (hne : g ≠ b) : w'.heap[g]? = some o := (ht.block _ (block_lt h) hne).trans h
theorem turn_setRow (w : World) (g : Nat) (cs : Array Value) : Turn (fun i => i = g) w (w.setRow g cs) := ⟨rfl, rfl, rfl, by simp, fun i _ hne => setRow_other w g i cs hne⟩
theorem below_turn {w0 w w' : World} {b : Nat} (hB : Below w0.heap.size w0 w) (ht : Turn (fun i => i = b) w w') (hb : w0.heap.size ≤ b) : Below w0.heap.size w0 w' :=
 hB.trans (ht.below (fun i (hi : i = b) => by subst hi; exact hb) hB.size)
def segA (cs : Array Value) (o : Nat) (vs : List Value) : Array Value := (cs.toList.take o ++ vs ++ cs.toList.drop (o + vs.length)).toArray
section
variable {P : Program} {ops : Array Oper} {rest : List Oper} {op : Oper} {a : Act} {w : World} {Q : Exit → Act → World → Prop}
theorem wpList_store_seg (hgd : op.guard = none) (ty : TypeId) (x y : Operand) (ho : op.op = .store ty x y)
  (g o : Nat) (v : Value) (cells : Array Value) (hx : a.eval x = .pointer (some ⟨g, o, none⟩)) (hy : a.eval y = v) (hc : v.cells = cells)
  (t : TypeId) (cur : Array Value) (hg : w.heap[g]? = some (.cells cur t (0, 0))) (hfit : o + cells.size ≤ cur.size) (hi : (P.info? ty).map (·.size) = some cells.size) (h1 : cells.all (·.oneCell') = true)
  (new : Array Value) (hnew : segA cur o cells.toList = new)
  (h : ∀ wq, wq.heap[g]? = some (.cells new t (0, 0)) → Turn (fun i => i = g) w wq → wpList P ops Q rest (a.put op.dst undef) wq) : wpList P ops Q (op :: rest) a w := by
 have hst := run_storeCells_at P g o t cells.toList 0 cur w hg (by simpa using hfit) (fun v hv => (Array.all_eq_true_iff_forall_mem.1 h1) v (by simpa using hv))
 have hsv : (storeVar ty ⟨g, o, none⟩ v).run P w = .ok () (w.setRow g new) := by
  cases hq : P.info? ty with
  | none => simp [hq] at hi
  | some i =>
   have hs : cells.size = i.size := by simp [hq] at hi; omega
   simp only [Nat.add_zero] at hst
   rw [← hnew]
   simp [storeVar, sizeOf, typeInfo, hq, hc, hs, hst, segA]
 refine wpList_plain hgd fun _ hK => ?_
 unfold Oper.wp execOp
 simp only [ho, hx, hy, Instr.storeAt, Instr.sureAddr, Sem.run_bind, Sem.run_pure, Result.andThen_ok, hsv]
 exact hK _ _ (h _ (setRow_heap _ _ _ _ _ _ hg) (turn_setRow _ _ _))
theorem wpList_load_seg (hgd : op.guard = none) (ty : TypeId) (x : Operand) (ho : op.op = .load ty x)
  (g o : Nat) (hx : a.eval x = .pointer (some ⟨g, o, none⟩)) (t : TypeId) (cur : Array Value) (hg : w.heap[g]? = some (.cells cur t (0, 0)))
  (cs : List Value) (hcs : ∀ j v, cs[j]? = some v → cur[o + j]? = some v) (d : TypeDesc)
  (hu : P.underlying ty = some d) (hd : d.isRow = true) (hi : (P.info? ty).map (·.size) = some cs.length)
  (h : wpList P ops Q rest (a.put op.dst (.agg cs.toArray)) w) : wpList P ops Q (op :: rest) a w :=
 wpList_load_mid hgd ty x ho g o hx cs d (fun j v hv => by rw [cell_of_row w g (o + j) cur t (0, 0) hg]; exact hcs j v hv) hu hd hi h
end
theorem results_cell_cell {fn : Func} {p u : Tmp} {ty ty' : TypeId} (h : fn.results = #[.cell p ty, .cell u ty']) (tmps : Array Value) (P : Program) (w : World) :
  (results fn tmps).run P w =
   ((asAddr (tmps.getD p undef)).run P w).andThen fun a w₁ => ((loadVar ty a).run P w₁).andThen fun v w₂ => ((asAddr (tmps.getD u undef)).run P w₂).andThen fun a' w₃ => ((loadVar ty' a').run P w₃).andThen fun v' w₄ => .ok (.tuple #[v, v']) w₄ := by
 simp only [results, h]
 simp [Sem.run_bind, Result.andThen]
theorem results_row_row {P : Program} {fn : Func} {p q : Tmp} {ty ty' : TypeId} (h : fn.results = #[.cell p ty, .cell q ty']) (tmps : Array Value) (w : World) (g g' : Nat) (t t' : TypeId) (cs cs' : Array Value) (fr fr' : Nat × Nat) (d d' : TypeDesc)
  (hp : tmps.getD p undef = .pointer (some ⟨g, 0, none⟩)) (hg : w.heap[g]? = some (.cells cs t fr))
  (hu : P.underlying ty = some d) (hd : (match d with | .struct _ | .array _ _ => true | _ => false) = true) (hi : (P.info? ty).map (·.size) = some cs.size)
  (hq : tmps.getD q undef = .pointer (some ⟨g', 0, none⟩)) (hg' : w.heap[g']? = some (.cells cs' t' fr'))
  (hu' : P.underlying ty' = some d') (hd' : (match d' with | .struct _ | .array _ _ => true | _ => false) = true) (hi' : (P.info? ty').map (·.size) = some cs'.size) :
  (results fn tmps).run P w = .ok (.tuple #[.agg cs, .agg cs']) w := by
 rw [results_cell_cell h, hp, hq]
 simp [asAddr, run_loadVar_row w g t ty cs fr d hg hu hd hi, run_loadVar_row w g' t' ty' cs' fr' d' hg' hu' hd' hi', Result.andThen]
theorem wpList_store_segTo {P : Program} {ops : Array Oper} {rest : List Oper} {op : Oper} {a : Act} {w : World} {Q : Exit → Act → World → Prop} (hgd : op.guard = none) (ty : TypeId) (x y : Operand) (ho : op.op = .store ty x y) (hd : op.dst = none)
  (g o : Nat) (v : Value) (cells : Array Value) (hx : a.eval x = .pointer (some ⟨g, o, none⟩)) (hy : a.eval y = v) (hc : v.cells = cells)
  (t : TypeId) (cur : Array Value) (hg : w.heap[g]? = some (.cells cur t (0, 0))) (hfit : o + cells.size ≤ cur.size) (hi : (P.info? ty).map (·.size) = some cells.size) (h1 : cells.all (·.oneCell') = true)
  (new : Array Value) (hnew : segA cur o cells.toList = new)
  (h : ∀ wq, wq.heap[g]? = some (.cells new t (0, 0)) → Turn (fun i => i = g) w wq → wpList P ops Q rest a wq) : wpList P ops Q (op :: rest) a w :=
 wpList_store_seg hgd ty x y ho g o v cells hx hy hc t cur hg hfit hi h1 new hnew (fun wq h2 h3 => by rw [hd]; exact h wq h2 h3)
end Go.Proofs.YtfohjkgheeiinaaGreatDoor
namespace Go.Proofs.YtfohjkgheeiinaaGreatDoor
open Go.RowKit
theorem tk {P : Program} {ops : Array Oper} {Q : Exit → Act → World → Prop} {md : Region.Mode} {S : World → Prop} {fuel : Nat} {listed : Array Bool} {a a' : Act} {w : World} {oi : Oper} {v : Value} (i : Nat) (t : Tmp) (hi : ops[i]? = some oi := by rfl) (hd : oi.dst = some t := by rfl)
  (hs : Region.noSelect ops = true := by kernel_rfl) (hf : Region.free md ops listed i = true := by kernel_rfl) (hr : (Region.ready md ops listed).contains i = true := by kernel_rfl)
  (hQ : ∀ c a w, Q (.panic c) (a.put oi.dst v) w → Q (.panic c) a w := by exact fun _ _ _ h => h) (hw : Region.wanted oi (yielded ops a.tmps) = true := by rfl)
  (hy : ∀ w', S w' → (execOp a.eval oi).run P w' = .ok (.value v) w' := by (intro w' hSw; (try dsimp only at hSw); go_simp; all_goals with_reducible rfl)) (hS : S w := by assumption)
  (hp : a.put (some t) v = a' := by (simp only [Act.put, List.setIfInBounds_toArray, List.set_cons_zero, List.set_cons_succ]; rfl))
  (h : wpAnyH P md ops Q S fuel (listed.setIfInBounds i true) a' w) : wpAnyH P md ops Q S (fuel + 1) listed a w :=
 wpAnyH_take hi hs hf hr hQ (Or.inl ⟨hw, hy⟩) hS (by rw [hd, hp]; exact h)
theorem sq : (∀ (l : List Value) (i : Nat) (a : Value), l.toArray.setIfInBounds i a = (l.set i a).toArray) ∧ (∀ (x : Value) (l : List Value) (a : Value), (x :: l).set 0 a = a :: l) ∧ (∀ (x : Value) (l : List Value) (n : Nat) (a : Value), (x :: l).set (n + 1) a = x :: l.set n a) :=
 ⟨fun _ _ _ => List.setIfInBounds_toArray .., fun _ _ _ => List.set_cons_zero, fun _ _ _ _ => List.set_cons_succ⟩
theorem rd1 {P : Program} {ops : Array Oper} {Q : Exit → Act → World → Prop} {md : Region.Mode} {S : World → Prop} {fuel : Nat} {listed : Array Bool} {a : Act} {w : World} {o : Oper} (i : Nat) (hr : Region.ready md ops listed = [i] := by kernel_rfl) (ho : ops[i]? = some o := by rfl)
  (h : ∀ K' : Act → World → Prop, Shut (∀ a w, S w → (S w → wpAnyH P md ops Q S fuel (listed.setIfInBounds i true) a w) → K' a w) → if Region.wanted o (yielded ops a.tmps) = true then Oper.wp P o a w K' Q else K' (a.put o.dst undef) w) : wpAnyH P md ops Q S (fuel + 1) listed a w :=
 wpAnyH_ready hr (by simp) (AllReadyH.cons ho h AllReadyH.nil)
theorem tc2 {w W : World} {g : Nat} (ht : Turn (fun i => i = g) w W) {B0 i0 B1 i1 : Nat} {v0 v1 : Value} (h0 : w.cell? ⟨B0, i0, none⟩ = some v0) (h1 : w.cell? ⟨B1, i1, none⟩ = some v1) (n0 : ¬ B0 = g := by omega) (n1 : ¬ B1 = g := by omega) : W.cell? ⟨B0, i0, none⟩ = some v0 ∧ W.cell? ⟨B1, i1, none⟩ = some v1 := ⟨(World.cell?_of_block (a := ⟨B0, i0, none⟩) (ht.block B0 (World.block_lt_of_cell? w ⟨B0, i0, none⟩ h0) n0)).trans h0, (World.cell?_of_block (a := ⟨B1, i1, none⟩) (ht.block B1 (World.block_lt_of_cell? w ⟨B1, i1, none⟩ h1) n1)).trans h1⟩
theorem cl2 {w W : World} (hb : Below w.heap.size w W) {a0 a1 : Addr} {v0 v1 : Value} (h0 : w.cell? a0 = some v0) (h1 : w.cell? a1 = some v1) : W.cell? a0 = some v0 ∧ W.cell? a1 = some v1 := ⟨cell_later hb h0, cell_later hb h1⟩
theorem bl2 {w W : World} (hb : Below w.heap.size w W) {g0 g1 : Nat} {o0 o1 : Obj} (h0 : w.heap[g0]? = some o0) (h1 : w.heap[g1]? = some o1) : W.heap[g0]? = some o0 ∧ W.heap[g1]? = some o1 := ⟨block_later hb h0, block_later hb h1⟩
theorem bt2 {w W : World} {b : Nat} (ht : Turn (fun i => i = b) w W) {g0 g1 : Nat} {o0 o1 : Obj} (h0 : w.heap[g0]? = some o0) (h1 : w.heap[g1]? = some o1) (n0 : g0 ≠ b := by omega) (n1 : g1 ≠ b := by omega) : W.heap[g0]? = some o0 ∧ W.heap[g1]? = some o1 := ⟨block_turn ht h0 n0, block_turn ht h1 n1⟩
theorem tc3 {w W : World} {g : Nat} (ht : Turn (fun i => i = g) w W) {B0 i0 B1 i1 B2 i2 : Nat} {v0 v1 v2 : Value} (h0 : w.cell? ⟨B0, i0, none⟩ = some v0) (h1 : w.cell? ⟨B1, i1, none⟩ = some v1) (h2 : w.cell? ⟨B2, i2, none⟩ = some v2) (n0 : ¬ B0 = g := by omega) (n1 : ¬ B1 = g := by omega) (n2 : ¬ B2 = g := by omega) : W.cell? ⟨B0, i0, none⟩ = some v0 ∧ W.cell? ⟨B1, i1, none⟩ = some v1 ∧ W.cell? ⟨B2, i2, none⟩ = some v2 := ⟨(World.cell?_of_block (a := ⟨B0, i0, none⟩) (ht.block B0 (World.block_lt_of_cell? w ⟨B0, i0, none⟩ h0) n0)).trans h0, (World.cell?_of_block (a := ⟨B1, i1, none⟩) (ht.block B1 (World.block_lt_of_cell? w ⟨B1, i1, none⟩ h1) n1)).trans h1, (World.cell?_of_block (a := ⟨B2, i2, none⟩) (ht.block B2 (World.block_lt_of_cell? w ⟨B2, i2, none⟩ h2) n2)).trans h2⟩
theorem cl3 {w W : World} (hb : Below w.heap.size w W) {a0 a1 a2 : Addr} {v0 v1 v2 : Value} (h0 : w.cell? a0 = some v0) (h1 : w.cell? a1 = some v1) (h2 : w.cell? a2 = some v2) : W.cell? a0 = some v0 ∧ W.cell? a1 = some v1 ∧ W.cell? a2 = some v2 := ⟨cell_later hb h0, cell_later hb h1, cell_later hb h2⟩
theorem bl3 {w W : World} (hb : Below w.heap.size w W) {g0 g1 g2 : Nat} {o0 o1 o2 : Obj} (h0 : w.heap[g0]? = some o0) (h1 : w.heap[g1]? = some o1) (h2 : w.heap[g2]? = some o2) : W.heap[g0]? = some o0 ∧ W.heap[g1]? = some o1 ∧ W.heap[g2]? = some o2 := ⟨block_later hb h0, block_later hb h1, block_later hb h2⟩
theorem bt3 {w W : World} {b : Nat} (ht : Turn (fun i => i = b) w W) {g0 g1 g2 : Nat} {o0 o1 o2 : Obj} (h0 : w.heap[g0]? = some o0) (h1 : w.heap[g1]? = some o1) (h2 : w.heap[g2]? = some o2) (n0 : g0 ≠ b := by omega) (n1 : g1 ≠ b := by omega) (n2 : g2 ≠ b := by omega) : W.heap[g0]? = some o0 ∧ W.heap[g1]? = some o1 ∧ W.heap[g2]? = some o2 := ⟨block_turn ht h0 n0, block_turn ht h1 n1, block_turn ht h2 n2⟩
theorem tc4 {w W : World} {g : Nat} (ht : Turn (fun i => i = g) w W) {B0 i0 B1 i1 B2 i2 B3 i3 : Nat} {v0 v1 v2 v3 : Value} (h0 : w.cell? ⟨B0, i0, none⟩ = some v0) (h1 : w.cell? ⟨B1, i1, none⟩ = some v1) (h2 : w.cell? ⟨B2, i2, none⟩ = some v2) (h3 : w.cell? ⟨B3, i3, none⟩ = some v3) (n0 : ¬ B0 = g := by omega) (n1 : ¬ B1 = g := by omega) (n2 : ¬ B2 = g := by omega) (n3 : ¬ B3 = g := by omega) : W.cell? ⟨B0, i0, none⟩ = some v0 ∧ W.cell? ⟨B1, i1, none⟩ = some v1 ∧ W.cell? ⟨B2, i2, none⟩ = some v2 ∧ W.cell? ⟨B3, i3, none⟩ = some v3 := ⟨(World.cell?_of_block (a := ⟨B0, i0, none⟩) (ht.block B0 (World.block_lt_of_cell? w ⟨B0, i0, none⟩ h0) n0)).trans h0, (World.cell?_of_block (a := ⟨B1, i1, none⟩) (ht.block B1 (World.block_lt_of_cell? w ⟨B1, i1, none⟩ h1) n1)).trans h1, (World.cell?_of_block (a := ⟨B2, i2, none⟩) (ht.block B2 (World.block_lt_of_cell? w ⟨B2, i2, none⟩ h2) n2)).trans h2, (World.cell?_of_block (a := ⟨B3, i3, none⟩) (ht.block B3 (World.block_lt_of_cell? w ⟨B3, i3, none⟩ h3) n3)).trans h3⟩
theorem cl4 {w W : World} (hb : Below w.heap.size w W) {a0 a1 a2 a3 : Addr} {v0 v1 v2 v3 : Value} (h0 : w.cell? a0 = some v0) (h1 : w.cell? a1 = some v1) (h2 : w.cell? a2 = some v2) (h3 : w.cell? a3 = some v3) : W.cell? a0 = some v0 ∧ W.cell? a1 = some v1 ∧ W.cell? a2 = some v2 ∧ W.cell? a3 = some v3 := ⟨cell_later hb h0, cell_later hb h1, cell_later hb h2, cell_later hb h3⟩
theorem bl4 {w W : World} (hb : Below w.heap.size w W) {g0 g1 g2 g3 : Nat} {o0 o1 o2 o3 : Obj} (h0 : w.heap[g0]? = some o0) (h1 : w.heap[g1]? = some o1) (h2 : w.heap[g2]? = some o2) (h3 : w.heap[g3]? = some o3) : W.heap[g0]? = some o0 ∧ W.heap[g1]? = some o1 ∧ W.heap[g2]? = some o2 ∧ W.heap[g3]? = some o3 := ⟨block_later hb h0, block_later hb h1, block_later hb h2, block_later hb h3⟩
theorem bt4 {w W : World} {b : Nat} (ht : Turn (fun i => i = b) w W) {g0 g1 g2 g3 : Nat} {o0 o1 o2 o3 : Obj} (h0 : w.heap[g0]? = some o0) (h1 : w.heap[g1]? = some o1) (h2 : w.heap[g2]? = some o2) (h3 : w.heap[g3]? = some o3) (n0 : g0 ≠ b := by omega) (n1 : g1 ≠ b := by omega) (n2 : g2 ≠ b := by omega) (n3 : g3 ≠ b := by omega) : W.heap[g0]? = some o0 ∧ W.heap[g1]? = some o1 ∧ W.heap[g2]? = some o2 ∧ W.heap[g3]? = some o3 := ⟨block_turn ht h0 n0, block_turn ht h1 n1, block_turn ht h2 n2, block_turn ht h3 n3⟩
theorem tc5 {w W : World} {g : Nat} (ht : Turn (fun i => i = g) w W) {B0 i0 B1 i1 B2 i2 B3 i3 B4 i4 : Nat} {v0 v1 v2 v3 v4 : Value} (h0 : w.cell? ⟨B0, i0, none⟩ = some v0) (h1 : w.cell? ⟨B1, i1, none⟩ = some v1) (h2 : w.cell? ⟨B2, i2, none⟩ = some v2) (h3 : w.cell? ⟨B3, i3, none⟩ = some v3) (h4 : w.cell? ⟨B4, i4, none⟩ = some v4) (n0 : ¬ B0 = g := by omega) (n1 : ¬ B1 = g := by omega) (n2 : ¬ B2 = g := by omega) (n3 : ¬ B3 = g := by omega) (n4 : ¬ B4 = g := by omega) : W.cell? ⟨B0, i0, none⟩ = some v0 ∧ W.cell? ⟨B1, i1, none⟩ = some v1 ∧ W.cell? ⟨B2, i2, none⟩ = some v2 ∧ W.cell? ⟨B3, i3, none⟩ = some v3 ∧ W.cell? ⟨B4, i4, none⟩ = some v4 := ⟨(World.cell?_of_block (a := ⟨B0, i0, none⟩) (ht.block B0 (World.block_lt_of_cell? w ⟨B0, i0, none⟩ h0) n0)).trans h0, (World.cell?_of_block (a := ⟨B1, i1, none⟩) (ht.block B1 (World.block_lt_of_cell? w ⟨B1, i1, none⟩ h1) n1)).trans h1, (World.cell?_of_block (a := ⟨B2, i2, none⟩) (ht.block B2 (World.block_lt_of_cell? w ⟨B2, i2, none⟩ h2) n2)).trans h2, (World.cell?_of_block (a := ⟨B3, i3, none⟩) (ht.block B3 (World.block_lt_of_cell? w ⟨B3, i3, none⟩ h3) n3)).trans h3, (World.cell?_of_block (a := ⟨B4, i4, none⟩) (ht.block B4 (World.block_lt_of_cell? w ⟨B4, i4, none⟩ h4) n4)).trans h4⟩
theorem cl5 {w W : World} (hb : Below w.heap.size w W) {a0 a1 a2 a3 a4 : Addr} {v0 v1 v2 v3 v4 : Value} (h0 : w.cell? a0 = some v0) (h1 : w.cell? a1 = some v1) (h2 : w.cell? a2 = some v2) (h3 : w.cell? a3 = some v3) (h4 : w.cell? a4 = some v4) : W.cell? a0 = some v0 ∧ W.cell? a1 = some v1 ∧ W.cell? a2 = some v2 ∧ W.cell? a3 = some v3 ∧ W.cell? a4 = some v4 := ⟨cell_later hb h0, cell_later hb h1, cell_later hb h2, cell_later hb h3, cell_later hb h4⟩
theorem bl5 {w W : World} (hb : Below w.heap.size w W) {g0 g1 g2 g3 g4 : Nat} {o0 o1 o2 o3 o4 : Obj} (h0 : w.heap[g0]? = some o0) (h1 : w.heap[g1]? = some o1) (h2 : w.heap[g2]? = some o2) (h3 : w.heap[g3]? = some o3) (h4 : w.heap[g4]? = some o4) : W.heap[g0]? = some o0 ∧ W.heap[g1]? = some o1 ∧ W.heap[g2]? = some o2 ∧ W.heap[g3]? = some o3 ∧ W.heap[g4]? = some o4 := ⟨block_later hb h0, block_later hb h1, block_later hb h2, block_later hb h3, block_later hb h4⟩
theorem sqnew (w : World) (o : Obj) : Below w.heap.size w (w.alloc o) := (Below.refl _ _).alloc (Nat.le_refl _) _
theorem sqtr {A B C : World} (h : Below A.heap.size A B) (k : Below B.heap.size B C) : Below A.heap.size A C := h.trans (k.mono h.size)
theorem hp2 (w : World) (a b : Obj) : ∃ W, (w.alloc a).alloc b = W ∧ W.heap[w.heap.size]? = some a ∧ W.heap[w.heap.size + 1]? = some b ∧ Below w.heap.size w W ∧ W.heap.size = w.heap.size + 1 + 1 := by
 have e0 := heap_alloc_new w a
 have e1 := heap_alloc_new (w.alloc a) b
 rw [show (w.alloc a).heap.size = w.heap.size + 1 by simp] at e1
 exact ⟨_, rfl, block_later (sqtr (Below.refl _ _) (sqnew _ b)) e0, block_later (Below.refl _ _) e1, sqtr (sqtr (Below.refl _ _) (sqnew _ a)) (sqnew _ b), by simp⟩
theorem hp4 (w : World) (a b c d : Obj) : ∃ W, (((w.alloc a).alloc b).alloc c).alloc d = W ∧ W.heap[w.heap.size]? = some a ∧ W.heap[w.heap.size + 1]? = some b ∧ W.heap[w.heap.size + 1 + 1]? = some c ∧ W.heap[w.heap.size + 1 + 1 + 1]? = some d ∧ Below w.heap.size w W ∧ W.heap.size = w.heap.size + 1 + 1 + 1 + 1 := by
 have e0 := heap_alloc_new w a
 have e1 := heap_alloc_new (w.alloc a) b
 rw [show (w.alloc a).heap.size = w.heap.size + 1 by simp] at e1
 have e2 := heap_alloc_new ((w.alloc a).alloc b) c
 rw [show ((w.alloc a).alloc b).heap.size = w.heap.size + 1 + 1 by simp] at e2
 have e3 := heap_alloc_new (((w.alloc a).alloc b).alloc c) d
 rw [show (((w.alloc a).alloc b).alloc c).heap.size = w.heap.size + 1 + 1 + 1 by simp] at e3
 exact ⟨_, rfl, block_later (sqtr (sqtr (sqtr (Below.refl _ _) (sqnew _ b)) (sqnew _ c)) (sqnew _ d)) e0, block_later (sqtr (sqtr (Below.refl _ _) (sqnew _ c)) (sqnew _ d)) e1, block_later (sqtr (Below.refl _ _) (sqnew _ d)) e2, block_later (Below.refl _ _) e3, sqtr (sqtr (sqtr (sqtr (Below.refl _ _) (sqnew _ a)) (sqnew _ b)) (sqnew _ c)) (sqnew _ d), by simp⟩
theorem hp5 (w : World) (a b c d e : Obj) : ∃ W, ((((w.alloc a).alloc b).alloc c).alloc d).alloc e = W ∧ W.heap[w.heap.size]? = some a ∧ W.heap[w.heap.size + 1]? = some b ∧ W.heap[w.heap.size + 1 + 1]? = some c ∧ W.heap[w.heap.size + 1 + 1 + 1]? = some d ∧ W.heap[w.heap.size + 1 + 1 + 1 + 1]? = some e ∧ Below w.heap.size w W ∧ W.heap.size = w.heap.size + 1 + 1 + 1 + 1 + 1 := by
 have e0 := heap_alloc_new w a
 have e1 := heap_alloc_new (w.alloc a) b
 rw [show (w.alloc a).heap.size = w.heap.size + 1 by simp] at e1
 have e2 := heap_alloc_new ((w.alloc a).alloc b) c
 rw [show ((w.alloc a).alloc b).heap.size = w.heap.size + 1 + 1 by simp] at e2
 have e3 := heap_alloc_new (((w.alloc a).alloc b).alloc c) d
 rw [show (((w.alloc a).alloc b).alloc c).heap.size = w.heap.size + 1 + 1 + 1 by simp] at e3
 have e4 := heap_alloc_new ((((w.alloc a).alloc b).alloc c).alloc d) e
 rw [show ((((w.alloc a).alloc b).alloc c).alloc d).heap.size = w.heap.size + 1 + 1 + 1 + 1 by simp] at e4
 exact ⟨_, rfl, block_later (sqtr (sqtr (sqtr (sqtr (Below.refl _ _) (sqnew _ b)) (sqnew _ c)) (sqnew _ d)) (sqnew _ e)) e0, block_later (sqtr (sqtr (sqtr (Below.refl _ _) (sqnew _ c)) (sqnew _ d)) (sqnew _ e)) e1, block_later (sqtr (sqtr (Below.refl _ _) (sqnew _ d)) (sqnew _ e)) e2, block_later (sqtr (Below.refl _ _) (sqnew _ e)) e3, block_later (Below.refl _ _) e4, sqtr (sqtr (sqtr (sqtr (sqtr (Below.refl _ _) (sqnew _ a)) (sqnew _ b)) (sqnew _ c)) (sqnew _ d)) (sqnew _ e), by simp⟩
end Go.Proofs.YtfohjkgheeiinaaGreatDoor
