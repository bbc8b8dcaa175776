/- The search for all leaves, first part: in plain Lean; what a search's block holds; within. -/
import Derived.Test.YtjhplcpaaghleaaDoorWalkF
import Derived.Test.YtjhplcpaaghleaaDoorStretchM
import Derived.Test.YtjhplcpaaghleaaDoorPlayS
import Derived.Deep.AppendLies
namespace Go.Proofs.YtjhplcpaaghleaaDoor
open Go.RowKit Go.Maps

/-- A store that leaves the frame as it is written. -/
theorem wpList_store_segTo {P : Program} {ops : Array Oper} {rest : List Oper} {op : Oper} {a : Act} {w : World} {Q : Exit → Act → World → Prop} (hgd : op.guard = none) (ty : TypeId) (x y : Operand) (ho : op.op = .store ty x y) (hd : op.dst = none)
    (g o : Nat) (v : Value) (cells : Array Value) (hx : a.eval x = .pointer (some ⟨g, o, none⟩)) (hy : a.eval y = v) (hc : v.cells = cells)
    (t : TypeId) (cur : Array Value) (hg : w.heap[g]? = some (.cells cur t (0, 0))) (hfit : o + cells.size ≤ cur.size) (hi : (P.info? ty).map (·.size) = some cells.size) (h1 : cells.all (·.oneCell') = true)
    (new : Array Value) (hnew : segA cur o cells.toList = new)
    (h : ∀ wq, wq.heap[g]? = some (.cells new t (0, 0)) → Turn (fun i => i = g) w wq → wpList P ops Q rest a wq) : wpList P ops Q (op :: rest) a w :=
  wpList_store_seg hgd ty x y ho g o v cells hx hy hc t cur hg hfit hi h1 new hnew (fun wq h2 h3 => by rw [hd]; exact h wq h2 h3)

/-- How many words were looked at, and the leaves found: base, level, word. -/
abbrev SSt := Nat × List (Nat × Int × Nat)
def inB (most : Int) (st : SSt) : Bool := decide ((st.2.length : Int) ≤ most) && decide (st.1 ≤ 8192)
def lookS (S : Nat) (l : Int) (x va : Nat) (st : SSt) : SSt := (st.1 + 1, if mf S l x = 0 ∧ rdK l x ≠ 1 then st.2 ++ [(va, l, x)] else st.2)
def wordS (S : Nat) (most : Int) (l : Int) (sub : Nat → Nat → SSt → Bool × SSt) (x va : Nat) (st : SSt) : Bool × SSt :=
  if mf S l x = 1 then (true, st)
  else if mf S l x = 0 ∧ rdK l x = 1 then (if inB most (lookS S l x va st) = true then sub (rdO x) va (lookS S l x va st) else (false, lookS S l x va st))
  else (inB most (lookS S l x va st), lookS S l x va st)
/-- The words from i on, m of them, till one says no. -/
def rowS (g : Nat → SSt → Bool × SSt) : Nat → Nat → SSt → Bool × SSt
  | 0, _, st => (true, st)
  | m + 1, i, st => if (g i st).1 = true then rowS g m (i + 1) (g i st).2 else (false, (g i st).2)
def tblS (S : Nat) (f : Nat → Nat) (most : Int) : Nat → Nat → Nat → SSt → Bool × SSt
  | 0, tb, va, st => if errA S tb ≠ 0 then (true, st) else rowS (fun i st => wordS S most 3 (fun _ _ s => (true, s)) (f (tb + 8 * i)) (va + i * 2 ^ lowK 3) st) 512 0 st
  | k + 1, tb, va, st => if errA S tb ≠ 0 then (true, st) else rowS (fun i st => wordS S most (3 - (k + 1 : Nat)) (tblS S f most k) (f (tb + 8 * i)) (va + i * 2 ^ lowK (3 - (k + 1 : Nat))) st) 512 0 st

/-- Within the bounds, if the answer is yes; never more leaves than words. -/
def okS (r : Bool × SSt) : Prop := (r.1 = true → r.2.1 ≤ 8192) ∧ r.2.2.length ≤ r.2.1 ∧ r.2.1 ≤ 8193
theorem look_len {S : Nat} {l : Int} {x va : Nat} {st : SSt} (h : st.2.length ≤ st.1) : (lookS S l x va st).2.length ≤ (lookS S l x va st).1 := by
  unfold lookS
  simp only
  split
  · simp; omega
  · omega
theorem inB_le {most : Int} {st : SSt} (h : inB most st = true) : (st.2.length : Int) ≤ most ∧ st.1 ≤ 8192 := by
  unfold inB at h
  rw [Bool.and_eq_true] at h
  exact ⟨of_decide_eq_true h.1, of_decide_eq_true h.2⟩
theorem wordS_ok {S : Nat} {most l : Int} {sub : Nat → Nat → SSt → Bool × SSt} {x va : Nat} {st : SSt} (h1 : st.1 ≤ 8192) (h2 : st.2.length ≤ st.1) (hs : ∀ tb va st, st.1 ≤ 8192 → st.2.length ≤ st.1 → okS (sub tb va st)) : okS (wordS S most l sub x va st) := by
  have hl : (lookS S l x va st).1 = st.1 + 1 := rfl
  have hll := look_len (S := S) (l := l) (x := x) (va := va) h2
  unfold wordS
  split
  · exact ⟨fun _ => h1, h2, by show st.1 ≤ _; omega⟩
  · split
    · split
      · rename_i hb
        exact hs _ _ _ (inB_le hb).2 hll
      · exact ⟨fun c => (by cases c), hll, by rw [hl]; omega⟩
    · exact ⟨fun c => (inB_le c).2, hll, by rw [hl]; omega⟩
theorem rowS_ok {g : Nat → SSt → Bool × SSt} (hg : ∀ i st, st.1 ≤ 8192 → st.2.length ≤ st.1 → okS (g i st)) : ∀ (m i : Nat) (st : SSt), st.1 ≤ 8192 → st.2.length ≤ st.1 → okS (rowS g m i st)
  | 0, i, st, h1, h2 => ⟨fun _ => h1, h2, by show st.1 ≤ _; omega⟩
  | m + 1, i, st, h1, h2 => by
    have h := hg i st h1 h2
    unfold rowS
    split
    · rename_i hb
      exact rowS_ok hg m (i + 1) _ (h.1 hb) h.2.1
    · exact ⟨fun c => (by cases c), h.2.1, h.2.2⟩
theorem tblS_ok (S : Nat) (f : Nat → Nat) (most : Int) : ∀ (k tb va : Nat) (st : SSt), st.1 ≤ 8192 → st.2.length ≤ st.1 → okS (tblS S f most k tb va st)
  | 0, tb, va, st, h1, h2 => by
    unfold tblS
    split
    · exact ⟨fun _ => h1, h2, by show st.1 ≤ _; omega⟩
    · exact rowS_ok (fun i s q1 q2 => wordS_ok q1 q2 (fun _ _ s q3 q4 => ⟨fun _ => q3, q4, by show s.1 ≤ _; omega⟩)) 512 0 st h1 h2
  | k + 1, tb, va, st, h1, h2 => by
    unfold tblS
    split
    · exact ⟨fun _ => h1, h2, by show st.1 ≤ _; omega⟩
    · exact rowS_ok (fun i s q1 q2 => wordS_ok q1 q2 (fun tb va s q3 q4 => tblS_ok S f most k tb va s q3 q4)) 512 0 st h1 h2

/-! ### the search's block -/
def mcs : List (Nat × Int × Nat) → List Value
  | [] => []
  | q :: L => (.int .u64 (q.1 : Nat) :: .int .i64 q.2.1 :: d7 q.2.1 q.2.2) ++ mcs L
theorem mcs_append : ∀ (L M : List (Nat × Int × Nat)), mcs (L ++ M) = mcs L ++ mcs M
  | [], M => rfl
  | q :: L, M => by
    show (_ :: _ :: d7 _ _) ++ mcs (L ++ M) = ((_ :: _ :: d7 _ _) ++ mcs L) ++ mcs M
    rw [mcs_append L M, List.append_assoc]
def OwnM (w : World) (base : Nat) (v : Value) (L : List (Nat × Int × Nat)) : Prop := w.ownsRow base 63 9 v L.length (mcs L)
theorem OwnM.kept {w w' : World} {base : Nat} {v : Value} {L : List (Nat × Int × Nat)} (h : OwnM w base v L) (hk : ∀ g, base ≤ g → g < w.heap.size → w'.heap[g]? = w.heap[g]?) : OwnM w' base v L := by
  refine ⟨h.1, ?_⟩
  rcases h.2 with q | ⟨g, cap, cur, hv, hbase, hb, rest⟩
  · exact Or.inl q
  · exact Or.inr ⟨g, cap, cur, hv, hbase, (hk g hbase (block_lt hb)).trans hb, rest⟩
theorem OwnM.later {w w' : World} {base : Nat} {v : Value} {L : List (Nat × Int × Nat)} (h : OwnM w base v L) (hb : Below w.heap.size w w') : OwnM w' base v L := h.kept (fun g _ hl => hb.block g hl)
theorem OwnM.turn {w w' : World} {base b : Nat} {v : Value} {L : List (Nat × Int × Nat)} (h : OwnM w base v L) (ht : Turn (fun i => i = b) w w') (hb : b < base) : OwnM w' base v L := h.kept (fun g h1 hl => ht.block g hl (fun c => by omega))
theorem OwnM.form {w : World} {base : Nat} {v : Value} {L : List (Nat × Int × Nat)} (h : OwnM w base v L) : ∃ p cap, v = .slice p L.length cap := by
  rcases h.2 with ⟨rfl, hz⟩ | ⟨g, cap, cur, rfl, _⟩
  · exact ⟨none, 0, by rw [hz]⟩
  · exact ⟨_, _, rfl⟩

/-- The search in its block (the first that is new since w0): the memory at a, the bound, the words looked at, the leaves. -/
structure Srch (w0 w : World) (a : Nat) (most : Int) (st : SSt) (v : Value) : Prop where
  row : w.heap[w0.heap.size]? = some (.cells #[.pointer (some ⟨a, 0, none⟩), .int .i64 most, .int .i64 (st.1 : Nat), v] 88 (0, 0))
  own : OwnM w (w0.heap.size + 1) v st.2
  bel : Below w0.heap.size w0 w
theorem Srch.later {w0 w w' : World} {a : Nat} {most : Int} {st : SSt} {v : Value} (h : Srch w0 w a most st v) (hb : Below w.heap.size w w') : Srch w0 w' a most st v :=
  ⟨block_later hb h.row, h.own.later hb, below_tr h.bel hb⟩

theorem cells4 {w1 : World} {g t : Nat} {c0 c1 c2 c3 : Value} (hh : w1.heap[g]? = some (.cells #[c0, c1, c2, c3] t (0, 0))) :
    w1.cell? ⟨g, 0, none⟩ = some c0 ∧ w1.cell? ⟨g, 1, none⟩ = some c1 ∧ w1.cell? ⟨g, 2, none⟩ = some c2 ∧ w1.cell? ⟨g, 3, none⟩ = some c3 := by
  refine ⟨?_, ?_, ?_, ?_⟩
  all_goals (rw [cell_of_row _ _ _ _ _ _ hh]; rfl)

set_option maxHeartbeats 1000000 in
theorem within_c {w0 w : World} {a : Nat} {most : Int} {st : SSt} {v : Value} (h : Srch w0 w a most st v) :
    Calls Tryd.prog 39 #[.pointer (some ⟨w0.heap.size, 0, none⟩)] w fun e w' => e = .returned (.bool (inB most st)) ∧ ∃ m, w' = w.drewN m := by
  obtain ⟨p, cap, rfl⟩ := h.own.form
  obtain ⟨c0, c1, c2, c3⟩ := cells4 h.row
  obtain ⟨n, L⟩ := st
  simp only at *
  generalize hN : L.length = N at *
  by_cases h1 : (N : Int) ≤ most
  · have d1 : decide ((N : Int) ≤ most) = true := decide_eq_true h1
    have HE : Hid (inB most (n, L) = decide ((n : Int) ≤ 8192)) := by
      show inB most (n, L) = _
      unfold inB
      simp only
      rw [hN, d1, Bool.true_and, decide_eq_decide]; omega
    clear h
    go_enter Tryd.func39, Tryd.ntmps39
    go_wp2
    go_quiet (fail)
    go_wp2
    go_ret
    exact ⟨by rw [HE.out]; rfl, _, rfl⟩
  · have d1 : decide ((N : Int) ≤ most) = false := decide_eq_false h1
    have HE : Hid (inB most (n, L) = false) := by
      show inB most (n, L) = _
      unfold inB
      simp only
      rw [hN, d1, Bool.false_and]
    clear h h1
    go_enter Tryd.func39, Tryd.ntmps39
    go_wp2
    go_quiet (fail)
    go_wp2
    go_ret
    exact ⟨by rw [HE.out]; rfl, _, rfl⟩
end Go.Proofs.YtjhplcpaaghleaaDoor
