/- What marks that walks left lead to: plain facts. -/
import Derived.Test.YtndjhedoandinaaGreatDoorVirtD
import Derived.Test.YtndjhedoandinaaGreatDoorSegs
import Derived.Deep.AppendLies
import Derived.Laws.StructEq
import Derived.Laws.ResultCell
import Derived.Lib.SliceRun
import Derived.Test.YtndjhedoandinaaGreatDoorDescMath
import Derived.Deep.QuietTactic
import Derived.BigQuiet
import Derived.Deep.RegionLaw
import Derived.Test.YtndjhedoandinaaGreatDoorDescGood
import Derived.Test.YtndjhedoandinaaGreatDoorMemW
import Derived.Deep.DeepCutAuto
import Derived.Test.YtndjhedoandinaaGreatDoorWalkT

/- Entries of a buffer, in plain Lean and in memory: what one holds, lists of them, rows. -/
namespace Go.Proofs.YtndjhedoandinaaGreatDoor.TR
open Go.RowKit

/-- A mark: ASID, address, level, table. -/
structure En where
  aid : Int
  va : Nat
  lv : Int
  tb : Nat

def En.cs (e : En) : List Value := [.int .i64 e.aid, .int .u64 (e.va : Int), .int .i64 e.lv, .int .u64 (e.tb : Int)]
abbrev En.v (e : En) : Value := .agg #[.int .i64 e.aid, .int .u64 (e.va : Int), .int .i64 e.lv, .int .u64 (e.tb : Int)]
/-- Its two words are words. -/
def En.ok (e : En) : Prop := e.va < 18446744073709551616 ∧ e.tb < 18446744073709551616
def e0 : En := ⟨0, 0, 0, 0⟩
/-- Two marks, held against one another; a list's mark at a place. -/
def eqB (e f : En) : Bool := e.aid == f.aid && (e.va == f.va && (e.lv == f.lv && e.tb == f.tb))
theorem eqB_iff {e f : En} : eqB e f = true ↔ e = f := by
  obtain ⟨a0, a1, a2, a3⟩ := e
  obtain ⟨b0, b1, b2, b3⟩ := f
  unfold eqB
  simp only [Bool.and_eq_true, beq_iff_eq, En.mk.injEq]
theorem eqB_true {e f : En} (h : e = f) : eqB e f = true := eqB_iff.2 h
theorem eqB_false {e f : En} (h : ¬ e = f) : eqB e f = false := by
  cases h1 : eqB e f
  · rfl
  · exact absurd (eqB_iff.1 h1) h
theorem eqB_comm (e f : En) : eqB e f = eqB f e := by
  rw [Bool.eq_iff_iff, eqB_iff, eqB_iff]
  exact eq_comm
def memB (e : En) (l : List En) : Bool := l.any (eqB e)
theorem memB_iff {e : En} {l : List En} : memB e l = true ↔ e ∈ l := by
  unfold memB
  rw [List.any_eq_true]
  constructor
  · rintro ⟨x, hx, h⟩
    rw [eqB_iff.1 h]; exact hx
  · intro h
    exact ⟨e, h, eqB_true rfl⟩
theorem memB_true {e : En} {l : List En} (h : e ∈ l) : memB e l = true := memB_iff.2 h
theorem memB_false {e : En} {l : List En} (h : ¬ e ∈ l) : memB e l = false := by
  cases h1 : memB e l
  · rfl
  · exact absurd (memB_iff.1 h1) h
def gE (l : List En) (i : Nat) : En := l.getD i e0
theorem gE_pos (l : List En) (i : Nat) (h : i < l.length) : gE l i = l[i] := by
  unfold gE
  rw [List.getD_eq_getElem?_getD, List.getElem?_eq_getElem h]; rfl
theorem gE_mem (l : List En) (i : Nat) (h : i < l.length) : gE l i ∈ l := by rw [gE_pos l i h]; exact List.getElem_mem h
theorem e0_ok : e0.ok := ⟨by decide, by decide⟩
theorem En.len (e : En) : e.cs.length = 4 := rfl
theorem En.one (e : En) : ∀ u ∈ e.cs, u.oneCell' = true := by
  intro u hu
  simp only [En.cs, List.mem_cons, List.not_mem_nil, or_false] at hu
  rcases hu with rfl | rfl | rfl | rfl <;> rfl

/-- The cells of a list of entries. -/
def ecs : List En → List Value
  | [] => []
  | e :: l => e.cs ++ ecs l
theorem ecs_app (l m : List En) : ecs (l ++ m) = ecs l ++ ecs m := by
  induction l with
  | nil => rfl
  | cons e l ih => show e.cs ++ ecs (l ++ m) = _; rw [ih]; exact (List.append_assoc ..).symm
theorem ecs_len (l : List En) : (ecs l).length = l.length * 4 := by
  induction l with
  | nil => rfl
  | cons e l ih => show (e.cs ++ ecs l).length = _; rw [List.length_append, ih, En.len, List.length_cons]; omega
theorem ecs_one (l : List En) : ∀ u ∈ ecs l, u.oneCell' = true := by
  induction l with
  | nil => intro u hu; cases hu
  | cons e l ih =>
    intro u hu
    rcases List.mem_append.1 hu with h | h
    · exact e.one u h
    · exact ih u h
theorem ecs_get (l : List En) (i j : Nat) (hj : j < 4) (hi : i < l.length) : (ecs l)[i * 4 + j]? = ((gE l i)).cs[j]? := by
  induction l generalizing i with
  | nil => simp at hi
  | cons e l ih =>
    cases i with
    | zero =>
      show (e.cs ++ ecs l)[0 * 4 + j]? = _
      rw [List.getElem?_append_left (by rw [En.len]; omega), Nat.zero_mul, Nat.zero_add]
      rfl
    | succ i =>
      show (e.cs ++ ecs l)[(i + 1) * 4 + j]? = _
      rw [List.getElem?_append_right (by rw [En.len]; omega), En.len, show (i + 1) * 4 + j - 4 = i * 4 + j by omega, ih i (by simpa using hi)]
      rfl
theorem ecs_take (l : List En) (n : Nat) : (ecs l).take (n * 4) = ecs (l.take n) := by
  induction l generalizing n with
  | nil => simp [ecs]
  | cons e l ih =>
    cases n with
    | zero => simp [ecs]
    | succ n =>
      show (e.cs ++ ecs l).take ((n + 1) * 4) = e.cs ++ ecs (l.take n)
      rw [List.take_append, En.len, show (n + 1) * 4 - 4 = n * 4 by omega, ih, List.take_of_length_le (by rw [En.len]; omega)]
theorem ecs_drop (l : List En) (n : Nat) : (ecs l).drop (n * 4) = ecs (l.drop n) := by
  induction l generalizing n with
  | nil => simp [ecs]
  | cons e l ih =>
    cases n with
    | zero => simp
    | succ n =>
      show (e.cs ++ ecs l).drop ((n + 1) * 4) = ecs (l.drop n)
      rw [List.drop_append, En.len, show (n + 1) * 4 - 4 = n * 4 by omega, ih, List.drop_eq_nil_of_le (by rw [En.len]; omega)]
      rfl

/-- A slice of entries, to read: where it lies, if it has any. -/
def RdA (w : World) (ad : Option Addr) (l : List En) : Prop :=
  ∀ i, i < l.length → ∃ g o, ad = some ⟨g, o, none⟩ ∧ g < w.heap.size ∧ ∀ j u, ((gE l i)).cs[j]? = some u → w.cell? ⟨g, o + i * 4 + j, none⟩ = some u
def notIn (X : Nat → Prop) (ad : Option Addr) : Prop := ∀ a, ad = some a → ¬ X a.block
theorem RdA.kept {w w' : World} {ad : Option Addr} {l : List En} (h : RdA w ad l) (hs : w.heap.size ≤ w'.heap.size) (hb : ∀ a, ad = some a → a.block < w.heap.size → w'.heap[a.block]? = w.heap[a.block]?) : RdA w' ad l := fun i hi => by
  obtain ⟨g, o, rfl, hg, hc⟩ := h i hi
  exact ⟨g, o, rfl, Nat.lt_of_lt_of_le hg hs, fun j u hu => (World.cell?_of_block (a := ⟨g, o + i * 4 + j, none⟩) (hb ⟨g, o, none⟩ rfl hg)).trans (hc j u hu)⟩
theorem RdA.later {w w' : World} {ad : Option Addr} {l : List En} (h : RdA w ad l) (hb : Below w.heap.size w w') : RdA w' ad l :=
  h.kept hb.size (fun _ _ hlt => hb.block _ hlt)
theorem RdA.turn {w w' : World} {X : Nat → Prop} {ad : Option Addr} {l : List En} (h : RdA w ad l) (ht : Turn X w w') (hn : notIn X ad) : RdA w' ad l :=
  h.kept ht.size (fun a e hlt => ht.block _ hlt (hn a e))
theorem RdA.nil (w : World) (ad : Option Addr) : RdA w ad [] := fun _ hi => absurd hi (Nat.not_lt_zero _)
theorem RdA.take {w : World} {ad : Option Addr} {l : List En} (h : RdA w ad l) (n : Nat) : RdA w ad (l.take n) := fun i hi => by
  have h1 : i < n ∧ i < l.length := by simpa [Nat.lt_min] using hi
  obtain ⟨g, o, e, hg, hc⟩ := h i h1.2
  have e1 : (gE (l.take n) i) = (gE l i) := by rw [gE_pos (l.take n) i hi, gE_pos l i h1.2, List.getElem_take]
  exact ⟨g, o, e, hg, fun j u hu => hc j u (by rw [← e1]; exact hu)⟩
theorem RdA.drop {w : World} {g o : Nat} {l : List En} (h : RdA w (some ⟨g, o, none⟩) l) (n : Nat) : RdA w (some ⟨g, o + n * 4, none⟩) (l.drop n) := fun i hi => by
  have h1 : n + i < l.length := by simp at hi; omega
  obtain ⟨g', o', e, hg, hc⟩ := h (n + i) h1
  cases e
  refine ⟨g, o + n * 4, rfl, hg, fun j u hu => ?_⟩
  rw [show o + n * 4 + i * 4 + j = o + (n + i) * 4 + j by omega]
  have e1 : (gE (l.drop n) i) = (gE l (n + i)) := by rw [gE_pos (l.drop n) i hi, gE_pos l (n + i) h1, List.getElem_drop]
  exact hc j u (by rw [← e1]; exact hu)
/-- The cells of a slice, one behind another. -/
theorem RdA.cells {w : World} {g o : Nat} {l : List En} (h : RdA w (some ⟨g, o, none⟩) l) : ∀ j u, (ecs l)[j]? = some u → w.cell? ((⟨g, o, none⟩ : Addr).add j) = some u := by
  intro j u hu
  have hj : j < l.length * 4 := by rw [← ecs_len]; exact (List.getElem?_eq_some_iff.1 hu).1
  have e : j = j / 4 * 4 + j % 4 := by omega
  obtain ⟨g', o', e1, hg, hc⟩ := h (j / 4) (by omega)
  cases e1
  rw [e, ecs_get l _ _ (by omega) (by omega)] at hu
  have := hc _ _ hu
  rw [Addr.add_lit]
  rwa [show o + j / 4 * 4 + j % 4 = o + j by omega] at this

/-- A row of the call's own, to read. -/
theorem own_rd {w : World} {base : Nat} {T : TypeId} {v : Value} {l : List En} (h : w.ownsRow base T 4 v l.length (ecs l)) : ∃ ad cap, v = .slice ad l.length cap ∧ RdA w ad l ∧ (∀ a, ad = some a → base ≤ a.block ∧ a.block < w.heap.size) := by
  have hl := h.lt
  rcases h.2 with ⟨rfl, h0⟩ | ⟨g, cap, cur, rfl, hb, hg, hr⟩
  · exact ⟨none, 0, by rw [h0], fun i hi => by omega, fun a ha => by cases ha⟩
  · refine ⟨some ⟨g, 0, none⟩, cap, rfl, fun i hi => ⟨g, 0, rfl, (hl g rfl).2, fun j u hu => ?_⟩, fun a ha => by cases ha; exact hl g rfl⟩
    have hj : j < 4 := by rw [← ((gE l i)).len]; exact (List.getElem?_eq_some_iff.1 hu).1
    have := h.cells rfl (i * 4 + j) u (by rw [ecs_get l i j hj hi]; exact hu)
    rw [Addr.add_lit] at this
    rwa [show 0 + i * 4 + j = 0 + (i * 4 + j) by omega]

/-- Four cells. -/
theorem cells4 {w1 : World} {g t : Nat} {c0 c1 c2 c3 : Value} (hh : w1.heap[g]? = some (.cells #[c0, c1, c2, c3] t (0, 0))) :
    w1.cell? ⟨g, 0, none⟩ = some c0 ∧ w1.cell? ⟨g, 1, none⟩ = some c1 ∧ w1.cell? ⟨g, 2, none⟩ = some c2 ∧ w1.cell? ⟨g, 3, none⟩ = some c3 := by
  refine ⟨?_, ?_, ?_, ?_⟩
  all_goals (rw [cell_of_row _ _ _ _ _ _ hh]; rfl)
theorem res_row_tmp {P : Program} {fn : Func} {p u : Tmp} {ty : TypeId} (h : fn.results = #[.cell p ty, .tmp u]) (tmps : Array Value) (w : World) (g : Nat) (t : TypeId) (cs : Array Value) (fr : Nat × Nat) (d : TypeDesc)
    (hp : tmps.getD p undef = .pointer (some ⟨g, 0, none⟩)) (hg : w.heap[g]? = some (.cells cs t fr))
    (hu : P.underlying ty = some d) (hd : (match d with | .struct _ | .array _ _ => true | _ => false) = true) (hi : (P.info? ty).map (·.size) = some cs.size) :
    (results fn tmps).run P w = .ok (.tuple #[.agg cs, tmps.getD u undef]) w := by
  rw [results_cell_tmp h, hp]
  simp [asAddr, run_loadVar_row w g t ty cs fr d hg hu hd hi, Result.andThen]

theorem eq_ways {e f : En} (h : e ≠ f) : e.aid ≠ f.aid ∨ e.aid = f.aid ∧ (e.va ≠ f.va ∨ e.va = f.va ∧ (e.lv ≠ f.lv ∨ e.lv = f.lv ∧ e.tb ≠ f.tb)) := by
  obtain ⟨a0, a1, a2, a3⟩ := e
  obtain ⟨b0, b1, b2, b3⟩ := f
  simp only [Ne, En.mk.injEq] at h ⊢
  by_cases h0 : a0 = b0
  · refine Or.inr ⟨h0, ?_⟩; subst h0
    by_cases h1 : a1 = b1
    · refine Or.inr ⟨h1, ?_⟩; subst h1
      by_cases h2 : a2 = b2
      · refine Or.inr ⟨h2, ?_⟩; subst h2
        exact fun h3 => h ⟨rfl, rfl, rfl, h3⟩
      · exact Or.inl h2
    · exact Or.inl h1
  · exact Or.inl h0

/-- The program's '==' of two marks. -/
theorem eqT (e f : En) (w : World) : (binOp .eql 112 e.v f.v).run Tryz.prog w = .ok (.bool (eqB e f)) w := by
  by_cases h : e = f
  · subst h
    rw [eqB_true rfl]
    obtain ⟨a0, a1, a2, a3⟩ := e
    go_simp
  · rw [eqB_false h]
    have hw := eq_ways h
    clear h
    obtain ⟨a0, a1, a2, a3⟩ := e
    obtain ⟨b0, b1, b2, b3⟩ := f
    simp only at hw
    rcases hw with h | ⟨rfl, h | ⟨rfl, h | ⟨rfl, h⟩⟩⟩
    all_goals (go_simp <;> simp_all <;> (intro hq; omega))

/-- The document's '==' of two marks. -/
theorem eqR (e f : En) (w : World) : (binOp .eql 113 e.v f.v).run Tryz.prog w = .ok (.bool (eqB e f)) w := by
  by_cases h : e = f
  · subst h
    rw [eqB_true rfl]
    obtain ⟨a0, a1, a2, a3⟩ := e
    go_simp
  · rw [eqB_false h]
    have hw := eq_ways h
    clear h
    obtain ⟨a0, a1, a2, a3⟩ := e
    obtain ⟨b0, b1, b2, b3⟩ := f
    simp only at hw
    rcases hw with h | ⟨rfl, h | ⟨rfl, h | ⟨rfl, h⟩⟩⟩
    all_goals (go_simp <;> simp_all <;> (intro hq; omega))

end Go.Proofs.YtndjhedoandinaaGreatDoor.TR

/- Marks: what is right, what leads: the walks of package trail's functions on marks. -/
namespace Go.Proofs.YtndjhedoandinaaGreatDoor.TR
open Go.RowKit

/-- The variables that calls read: package desc's, and where a table's address has its bits. -/
structure Flds (w : World) : Prop where
  d : Go.Proofs.YtndjhedoandinaaGreatDoor.Flds w
  t0 : w.cell? ⟨3, 0, none⟩ = some (.int .i64 12)
  t1 : w.cell? ⟨3, 1, none⟩ = some (.int .i64 36)
theorem Flds.later {w w' : World} (h : Flds w) (hb : Below w.heap.size w w') : Flds w' :=
  ⟨h.d.later hb, cell_later hb h.t0, cell_later hb h.t1⟩
theorem Flds.alloc {w : World} (h : Flds w) (o : Obj) : Flds (w.alloc o) := h.later (below_new w o)

def baseB (b x : Nat) (l : Int) : Bool := isLv l && decide (baseV x l = b)
/-- A mark leads. -/
def mB (e : En) (i : Int) (x : Nat) : Bool := decide (e.aid = i) && (lowB x && baseB e.va x (e.lv - 1))
def tabB (t : Nat) : Bool := restV t [(12, 36)] == 0
/-- What may be. -/
def rightE (e : En) : Bool := decide (0 ≤ e.aid ∧ e.aid ≤ 255 ∧ 1 ≤ e.lv ∧ e.lv ≤ 3) && (tabB e.tb && mB e e.aid e.va)
def En.okR (e : En) : Prop := e.ok ∧ rightE e = true
theorem right_lv {e : En} (h : rightE e = true) : 1 ≤ e.lv ∧ e.lv ≤ 3 := by
  unfold rightE at h
  rw [Bool.and_eq_true, decide_eq_true_eq] at h
  exact h.1.2.2

set_option maxHeartbeats 1000000 in
theorem isBase_any (b x : Nat) (l : Int) (hx : x < 18446744073709551616) (w : World) :
    Calls Tryz.prog 137 #[.int .u64 b, .int .u64 x, .int .i64 l] w fun e w' => e = .returned (.bool (baseB b x l)) ∧ w = w' := by
  cases hl : isLv l
  · have HE : Hid (baseB b x l = false) := by show baseB b x l = _; unfold baseB; rw [hl]; rfl
    have e : lowL l = 0 := lowL_wrong hl
    go_enter Tryz.func137, Tryz.ntmps137
    go_wp2_with (first
      | (go_at_call 109; refine (dbits_any _ _).mono ?_; rintro e w' ⟨rfl, rfl⟩; rw [e])
      | (go_at_call 95; refine (base_any x l hx _).mono ?_; rintro e w' ⟨rfl, rfl⟩))
    go_ret
    exact ⟨by rw [HE.out]; rfl, rfl⟩
  · have HE : Hid (baseB b x l = ((baseV x l : Int) == (b : Int))) := by
      show baseB b x l = _
      unfold baseB; rw [hl, Bool.true_and, Bool.eq_iff_iff, decide_eq_true_eq, beq_iff_eq]; omega
    obtain ⟨e, h1, h2, -⟩ := lowK_eq hl
    have h3 : (0 : Int) < lowL l := by omega
    clear e h1 h2
    generalize hbv : baseV x l = B at *
    have hB := fun w1 => base_any x l hx w1
    rw [hbv] at hB
    clear hbv
    generalize hlv : lowL l = L at *
    have hL := fun w1 => dbits_any l w1
    rw [hlv] at hL
    clear hlv
    go_enter Tryz.func137, Tryz.ntmps137
    go_wp2_with (first
      | (go_at_call 109; refine (hL _).mono ?_; rintro e w' ⟨rfl, rfl⟩)
      | (go_at_call 95; refine (hB _).mono ?_; rintro e w' ⟨rfl, rfl⟩))
    all_goals go_ret
    all_goals exact ⟨by rw [HE.out]; rfl, rfl⟩

set_option maxHeartbeats 1000000 in
theorem matches_any (e : En) (h1 : 1 ≤ e.lv) (h3 : e.lv ≤ 3) (i : Int) (x : Nat) (hx : x < 18446744073709551616) (w : World) :
    Calls Tryz.prog 102 #[e.v, .int .i64 i, .int .u64 x] w fun r w' => r = .returned (.bool (mB e i x)) ∧ Below w.heap.size w w' := by
  unfold mB
  obtain ⟨a0, a1, a2, a3⟩ := e
  simp only [En.v] at *
  by_cases h0 : a0 = i
  · rw [decide_eq_true h0, Bool.true_and]
    have d0 : (a0 == i) = true := by rw [beq_iff_eq]; exact h0
    cases hl : lowB x
    · go_enter Tryz.func102, Tryz.ntmps102
      go_wp2_with (first
        | (go_at_call 128; refine (low_any x _).mono ?_; rintro e w' ⟨rfl, rfl⟩; rw [hl]))
      all_goals go_ret
      all_goals exact ⟨rfl, below_new _ _⟩
    · rw [Bool.true_and]
      go_enter Tryz.func102, Tryz.ntmps102
      go_wp2_with (first
        | (go_at_call 128; refine (low_any x _).mono ?_; rintro e w' ⟨rfl, rfl⟩; rw [hl])
        | (go_at_call 137; refine (isBase_any a1 x (a2 - 1) hx _).mono ?_; rintro e w' ⟨rfl, rfl⟩))
      all_goals go_ret
      all_goals exact ⟨rfl, below_new _ _⟩
  · rw [decide_eq_false h0, Bool.false_and]
    have d0 : (a0 == i) = false := by rw [beq_eq_false_iff_ne]; exact h0
    go_enter Tryz.func102, Tryz.ntmps102
    go_wp2
    go_ret
    exact ⟨rfl, below_new _ _⟩

set_option maxHeartbeats 2000000 in
theorem rightE_any (e : En) (he : e.ok) (w : World) (hF : Flds w) :
    Calls Tryz.prog 148 #[e.v] w fun r w' => r = .returned (.bool (rightE e)) ∧ Below w.heap.size w w' := by
  have hm := fun (h1 : 1 ≤ e.lv) (h3 : e.lv ≤ 3) w1 => matches_any e h1 h3 e.aid e.va he.1 w1
  have HT : Hid (tabB e.tb = (restV e.tb [(12, 36)] == 0)) := rfl
  have HE : Hid (rightE e = (decide (0 ≤ e.aid ∧ e.aid ≤ 255 ∧ 1 ≤ e.lv ∧ e.lv ≤ 3) && (tabB e.tb && mB e e.aid e.va))) := rfl
  have hR := fun b c w1 h1 h2 => rest_some e.tb he.2 [(12, 36)] b c (by decide) w1 h1 h2
  generalize rightE e = RE at *
  generalize mB e e.aid e.va = M at *
  have t0 := fun ob => cell_later (below_new w ob) hF.t0
  have t1 := fun ob => cell_later (below_new w ob) hF.t1
  clear hF
  obtain ⟨a0, a1, a2, a3⟩ := e
  simp only [En.v] at *
  by_cases h0 : 0 ≤ a0
  · by_cases h1 : a0 ≤ 255
    · by_cases h2 : 1 ≤ a2
      · by_cases h3 : a2 ≤ 3
        · rw [decide_eq_true (show 0 ≤ a0 ∧ a0 ≤ 255 ∧ 1 ≤ a2 ∧ a2 ≤ 3 from ⟨h0, h1, h2, h3⟩), Bool.true_and] at HE
          have d0 : decide (a0 < 0) = false := decide_eq_false (by omega)
          have d1 : decide (255 < a0) = false := decide_eq_false (by omega)
          have d2 : decide (a2 < 1) = false := decide_eq_false (by omega)
          have d3 : decide (3 < a2) = false := decide_eq_false (by omega)
          have hM := hm h2 h3
          clear hm
          generalize restV a3 [(12, 36)] = y at *
          by_cases hy : y = 0
          · rw [hy] at HT hR
            rw [HT.out] at HE
            go_enter Tryz.func148, Tryz.ntmps148
            go_wp2_with fail
            refine (hR _ _ _ (fun i hi => ?_) (fun i hi => ?_)).mono ?_
            · obtain rfl : i = 0 := by simp at hi; exact hi
              simp
            · obtain rfl : i = 0 := by simp at hi; exact hi
              simp
            rintro e w1 ⟨rfl, hb⟩
            have hK := block_later hb (heap_alloc2_old w (.cells #[.int .i64 a0, .int .u64 a1, .int .i64 a2, .int .u64 a3] 112) _)
            obtain ⟨q0, q1, q2, q3⟩ := cells4 hK
            have hB := below_tr (below_tr (below_new _ _) (below_new _ _)) hb
            clear hb hK hR t0 t1
            go_wp2_with fail
            refine (hM _).mono ?_
            rintro e w2 ⟨rfl, hb2⟩
            go_wp2
            all_goals go_ret
            all_goals exact ⟨by rw [HE.out]; rfl, below_tr hB hb2⟩
          · have hy2 : ((y : Int) == 0) = false := by rw [beq_eq_false_iff_ne]; omega
            rw [show (y == 0) = false by rw [beq_eq_false_iff_ne]; exact hy] at HT
            rw [HT.out] at HE
            go_enter Tryz.func148, Tryz.ntmps148
            go_wp2_with fail
            refine (hR _ _ _ (fun i hi => ?_) (fun i hi => ?_)).mono ?_
            · obtain rfl : i = 0 := by simp at hi; exact hi
              simp
            · obtain rfl : i = 0 := by simp at hi; exact hi
              simp
            rintro e w1 ⟨rfl, hb⟩
            have hB := below_tr (below_tr (below_new _ _) (below_new _ _)) hb
            clear hb hR t0 t1 hM
            go_wp2
            all_goals go_ret
            all_goals exact ⟨by rw [HE.out]; rfl, hB⟩
        · rw [decide_eq_false (show ¬ (0 ≤ a0 ∧ a0 ≤ 255 ∧ 1 ≤ a2 ∧ a2 ≤ 3) by omega), Bool.false_and] at HE
          have d0 : decide (a0 < 0) = false := decide_eq_false (by omega)
          have d1 : decide (255 < a0) = false := decide_eq_false (by omega)
          have d2 : decide (a2 < 1) = false := decide_eq_false (by omega)
          have d3 : decide (3 < a2) = true := decide_eq_true (by omega)
          clear hm hR t0 t1
          go_enter Tryz.func148, Tryz.ntmps148
          go_wp2
          all_goals go_ret
          all_goals exact ⟨by rw [HE.out]; rfl, below_new _ _⟩
      · rw [decide_eq_false (show ¬ (0 ≤ a0 ∧ a0 ≤ 255 ∧ 1 ≤ a2 ∧ a2 ≤ 3) by omega), Bool.false_and] at HE
        have d0 : decide (a0 < 0) = false := decide_eq_false (by omega)
        have d1 : decide (255 < a0) = false := decide_eq_false (by omega)
        have d2 : decide (a2 < 1) = true := decide_eq_true (by omega)
        clear hm hR t0 t1
        go_enter Tryz.func148, Tryz.ntmps148
        go_wp2
        all_goals go_ret
        all_goals exact ⟨by rw [HE.out]; rfl, below_new _ _⟩
    · rw [decide_eq_false (show ¬ (0 ≤ a0 ∧ a0 ≤ 255 ∧ 1 ≤ a2 ∧ a2 ≤ 3) by omega), Bool.false_and] at HE
      have d0 : decide (a0 < 0) = false := decide_eq_false (by omega)
      have d1 : decide (255 < a0) = true := decide_eq_true (by omega)
      clear hm hR t0 t1
      go_enter Tryz.func148, Tryz.ntmps148
      go_wp2
      all_goals go_ret
      all_goals exact ⟨by rw [HE.out]; rfl, below_new _ _⟩
  · rw [decide_eq_false (show ¬ (0 ≤ a0 ∧ a0 ≤ 255 ∧ 1 ≤ a2 ∧ a2 ≤ 3) by omega), Bool.false_and] at HE
    have d0 : decide (a0 < 0) = true := decide_eq_true (by omega)
    clear hm hR t0 t1
    go_enter Tryz.func148, Tryz.ntmps148
    go_wp2
    all_goals go_ret
    all_goals exact ⟨by rw [HE.out]; rfl, below_new _ _⟩

end Go.Proofs.YtndjhedoandinaaGreatDoor.TR

/- Rows of entries: the walks of package slices' Index, Contains, Clone at entries. -/
namespace Go.Proofs.YtndjhedoandinaaGreatDoor.TR
open Go.RowKit

abbrev TE : TypeId := 112
theorem below_dN {w0 w : World} (h : Below w0.heap.size w0 w) : ∀ n, Below w0.heap.size w0 (w.drewN n)
  | 0 => h
  | n + 1 => (below_dN h n).drew

set_option maxHeartbeats 4000000 in
set_option maxRecDepth 100000 in
theorem index_c (l : List En) (e : En) (ad : Option Addr) (cap : Nat) (w : World) (hn : l.length ≤ 1000) (hr : RdA w ad l) :
    Calls Tryz.prog 157 #[.slice ad l.length cap, e.v] w fun r w' => (∃ z : Int, r = .returned (.int .i64 z) ∧ (0 ≤ z ↔ e ∈ l)) ∧ Below w.heap.size w w' := by
  have HR := Hid.mk hr
  have heq := fun y w1 => eqT e y w1
  have HE := Hid.mk (rfl : e = e)
  have hnI : (l.length : Int) ≤ 1000 := by omega
  obtain ⟨f, hf⟩ : ∃ f : En, f = e := ⟨_, rfl⟩
  rw [← hf] at heq ⊢
  have HF := Hid.mk hf
  clear hr hn hf HE
  obtain ⟨a0, a1, a2, a3⟩ := f
  simp only [En.v] at *
  go_enter Tryz.func157, Tryz.ntmps157
  go_wp2
  go_loopw [5, 8] (fun _ s8 wr => ∃ i : Nat, i ≤ l.length ∧ s8 = .int .i64 (i : Nat) ∧ Below w.heap.size w wr ∧ wr.heap[w.heap.size]? = some (.cells #[.int .i64 a0, .int .u64 a1, .int .i64 a2, .int .u64 a3] 112 (0, 0)) ∧ ∀ j, j < i → (gE l j) ≠ e) (fun _ s8 _ => l.length - (RowKit.intOf s8).toNat)
  case atStart => exact ⟨0, by omega, rfl, below_new _ _, heap_alloc_new _ _, fun j hj => absurd hj (Nat.not_lt_zero _)⟩
  case round =>
    obtain ⟨i, hi, rfl, hb, hK, hno⟩ := hrel
    have HB := Hid.mk hb
    have HK := Hid.mk hK
    have HNO := Hid.mk hno
    clear hno
    by_cases hlt : i < l.length
    · have hlt2 : (i : Int) < l.length := by omega
      have HLT := Hid.mk hlt
      have hib : (i : Int) < 1000 := by omega
      obtain ⟨g, o, rfl, hg, hc⟩ := HR.out i hlt
      have d0 := cell_later hb (hc 0 _ rfl)
      have d1 := cell_later hb (hc 1 _ rfl)
      have d2 := cell_later hb (hc 2 _ rfl)
      have d3 := cell_later hb (hc 3 _ rfl)
      rw [Nat.add_zero] at d0
      have hq := heq (gE l i)
      have HY : Hid (eqB ⟨a0, a1, a2, a3⟩ (gE l i) = eqB (gE l i) e) := by
        show _ = _
        rw [HF.out]; exact eqB_comm _ _
      have HM : Hid ((gE l i) ∈ l) := by show _ ∈ _; rw [gE_pos l i hlt]; exact List.getElem_mem hlt
      clear hc hb hi heq hlt
      obtain ⟨q0, q1, q2, q3⟩ := cells4 hK
      clear hK
      rw [HY.out] at hq
      have HEY := Hid.mk (rfl : (gE l i) = (gE l i))
      by_cases hey : (gE l i) = e
      · rw [eqB_true hey] at hq
        have HX : Hid (e ∈ l) := by show _ ∈ _; rw [← hey]; exact HM.out
        clear HY HM HEY hey
        generalize (gE l i) = y at *
        obtain ⟨b0, b1, b2, b3⟩ := y
        simp only at *
        go_wp2
        go_quiet (fail)
        go_wp2
        go_ret
        exact ⟨⟨_, rfl, fun _ => by rw [HF.out]; exact HX.out, fun _ => by omega⟩, below_dN HB.out _⟩
      · rw [eqB_false hey] at hq
        have HX : Hid (∀ j, j < i + 1 → (gE l j) ≠ e) := fun j hj => by
          by_cases h : j = i
          · subst h; exact hey
          · exact HNO.out j (by omega)
        clear HY HM HEY hey
        generalize (gE l i) = y at *
        obtain ⟨b0, b1, b2, b3⟩ := y
        simp only at *
        go_wp2
        go_quiet (fail)
        go_wp2
        exact ⟨⟨i + 1, by have := HLT.out; omega, by go_num, below_dN HB.out _, block_later (below_dN (Below.refl _ _) _) HK.out, HX.out⟩, by have := HLT.out; simp [RowKit.intOf]; omega⟩
    · have hlt2 : ¬ (i : Int) < l.length := by omega
      have HX : Hid (e ∉ l) := fun hm => by
        obtain ⟨j, hj, rfl⟩ := List.getElem_of_mem hm
        exact HNO.out j (by omega) (gE_pos l j hj)
      clear hb hK hi heq hlt
      go_wp2
      go_ret
      exact ⟨⟨_, rfl, fun h => absurd h (by omega), fun h => absurd (HF.out ▸ h) HX.out⟩, HB.out⟩

set_option maxHeartbeats 1000000 in
theorem contains_c (l : List En) (e : En) (ad : Option Addr) (cap : Nat) (w : World) (hn : l.length ≤ 1000) (hr : RdA w ad l) :
    Calls Tryz.prog 149 #[.slice ad l.length cap, e.v] w fun r w' => r = .returned (.bool (memB e l)) ∧ Below w.heap.size w w' := by
  have hc := fun w1 h1 => index_c l e ad cap w1 hn h1
  have HR := Hid.mk hr
  clear hr hn
  have HI : Hid (∀ z : Int, (0 ≤ z ↔ e ∈ l) → memB e l = decide (0 ≤ z)) := fun z hz => by rw [Bool.eq_iff_iff, memB_iff, decide_eq_true_eq]; exact hz.symm
  generalize memB e l = D at *
  obtain ⟨a0, a1, a2, a3⟩ := e
  simp only [En.v] at *
  generalize l.length = n at *
  go_enter Tryz.func149, Tryz.ntmps149
  go_wp2_with fail
  refine (hc _ (HR.out.later (below_new _ _))).mono ?_
  rintro e w1 ⟨⟨z, rfl, hz⟩, hb⟩
  have HZ := Hid.mk (HI.out z hz)
  clear hz hc
  go_wp2
  all_goals go_ret
  all_goals exact ⟨by rw [HZ.out]; rfl, below_tr (below_new _ _) hb⟩

end Go.Proofs.YtndjhedoandinaaGreatDoor.TR

/- Rows of entries, second part: appending; the walks of Clone and IndexFunc. -/
namespace Go.Proofs.YtndjhedoandinaaGreatDoor.TR
open Go.RowKit

theorem infoP {P : Program} {t : TypeId} {z : Option Value} {s b : Nat} (h : (P.info? t).map (fun i => (i.zero, i.size, i.bytes)) = some (z, s, b)) : ∃ i, P.info? t = some i ∧ i.zero = z ∧ i.size = s ∧ i.bytes = b := by
  cases hq : P.info? t with
  | none => rw [hq] at h; cases h
  | some i =>
    rw [hq] at h
    simp only [Option.map_some, Option.some.injEq, Prod.mk.injEq] at h
    exact ⟨i, rfl, h.1, h.2.1, h.2.2⟩
/-- What is asked of a slice type and its elements: entries of the program's, or of the document's. -/
structure ETy (tS tE : TypeId) : Prop where
  sl : Tryz.prog.underlying tS = some (.slice tE)
  info : (Tryz.prog.info? tE).map (fun i => (i.zero, i.size, i.bytes)) = some (some e0.v, 4, 32)
theorem etyT : ETy 103 112 := ⟨Tryz.underlying103, by kernel_rfl⟩

section
variable {ops : Array Oper} {rest : List Oper} {o : Oper} {a : Act} {Q : Exit → Act → World → Prop}
/-- Entries appended to a row of the call's own. -/
theorem wpList_appE {tS tE : TypeId} (hT : ETy tS tE) (w : World) (hg : o.guard = none) (s x : Operand) (hop : o.op = .call { callee := .builtin .append, args := #[s, x], argTypes := #[tS, tS] })
    (base : Nat) (v : Value) (l : List En) (hs : a.eval s = v) (hown : w.ownsRow base tE 4 v l.length (ecs l)) (m : List En) (ad : Addr) (c : Nat) (hx : a.eval x = .slice (some ad) m.length c) (hc : ∀ j u, (ecs m)[j]? = some u → w.cell? (ad.add j) = some u) (hp : 0 < m.length) (hlen : l.length + m.length ≤ 100000) (hbase : base ≤ w.heap.size) (H : Nat) (hH : w.heap.size = H)
    (h : ∀ g cap w', w'.ownsRow base tE 4 (.slice (some ⟨g, 0, none⟩) (l.length + m.length) cap) (l ++ m).length (ecs (l ++ m)) → w.grownBy w' v.ownBlock → (v.ownBlock = some g ∨ g = H) → g < w'.heap.size → wpList Tryz.prog ops Q rest (a.put o.dst (.slice (some ⟨g, 0, none⟩) (l.length + m.length) cap)) w') :
    wpList Tryz.prog ops Q (o :: rest) a w := by
  obtain ⟨i0, hi, hz0, hz1, hz2⟩ := infoP hT.info
  refine wpList_append_lies w hg s x tS hop base tE i0 _ 4 32 hT.sl hi hz0 hz1 hz2 rfl (by decide) v l.length (ecs l) hs hown ad m.length c (ecs m) hx (ecs_len m) hc (ecs_one m) hp (by unfold maxLen; omega) (by omega) hbase H hH ?_
  intro g cap w' hown' hgrow hat hlt
  rw [← ecs_app] at hown'
  exact h g cap w' (by rw [List.length_append]; exact hown') hgrow hat hlt
theorem step_appE {K : Act → World → Prop} {E : Prop} {tS tE : TypeId} (hT : ETy tS tE) (w : World) (hg : o.guard = none) (s x : Operand) (hop : o.op = .call { callee := .builtin .append, args := #[s, x], argTypes := #[tS, tS] })
    (base : Nat) (v : Value) (l : List En) (hs : a.eval s = v) (hown : w.ownsRow base tE 4 v l.length (ecs l)) (m : List En) (ad : Addr) (c : Nat) (hx : a.eval x = .slice (some ad) m.length c) (hc : ∀ j u, (ecs m)[j]? = some u → w.cell? (ad.add j) = some u) (hp : 0 < m.length) (hlen : l.length + m.length ≤ 100000) (hbase : base ≤ w.heap.size) (H : Nat) (hH : w.heap.size = H)
    (h : ∀ g cap w', w'.ownsRow base tE 4 (.slice (some ⟨g, 0, none⟩) (l.length + m.length) cap) (l ++ m).length (ecs (l ++ m)) → w.grownBy w' v.ownBlock → (v.ownBlock = some g ∨ g = H) → g < w'.heap.size → K (a.put o.dst (.slice (some ⟨g, 0, none⟩) (l.length + m.length) cap)) w') :
    if Region.wanted o (yielded ops a.tmps) = true then Oper.wp Tryz.prog o a w K Q else E := by
  obtain ⟨i0, hi, hz0, hz1, hz2⟩ := infoP hT.info
  refine step_append_lies w hg s x tS hop base tE i0 _ 4 32 hT.sl hi hz0 hz1 hz2 rfl (by decide) v l.length (ecs l) hs hown ad m.length c (ecs m) hx (ecs_len m) hc (ecs_one m) hp (by unfold maxLen; omega) (by omega) hbase H hH ?_
  intro g cap w' hown' hgrow hat hlt
  rw [← ecs_app] at hown'
  exact h g cap w' (by rw [List.length_append]; exact hown') hgrow hat hlt
end

/-- A new row, empty. -/
theorem own_new (w : World) (tE : TypeId) : (w.alloc (.cells #[] tE)).ownsRow w.heap.size tE 4 (.slice (some ⟨w.heap.size, 0, none⟩) 0 0) ([] : List En).length (ecs []) :=
  ⟨rfl, Or.inr ⟨w.heap.size, 0, #[], rfl, Nat.le_refl _, heap_alloc_new _ _, Nat.le_refl _, Nat.zero_le _, rfl, rfl⟩⟩

set_option maxHeartbeats 1000000 in
set_option maxRecDepth 100000 in
theorem clone_c (l : List En) (ad : Option Addr) (cap : Nat) (hf : ad = none ∨ ∃ g o, ad = some ⟨g, o, none⟩) (hn : l.length ≤ 1000) (w : World) (hr : RdA w ad l) :
    Calls Tryz.prog 88 #[.slice ad l.length cap] w fun r w' => ∃ ad' cap', r = .returned (.slice ad' l.length cap') ∧ RdA w' ad' l ∧ (∀ b, ad' = some b → w.heap.size ≤ b.block) ∧ Below w.heap.size w w' := by
  have HR := Hid.mk hr
  clear hr
  rcases hf with rfl | ⟨b, o, rfl⟩
  · have h0 : l.length = 0 := by
      rcases Nat.eq_zero_or_pos l.length with h | h
      · exact h
      · obtain ⟨g, o, e, -⟩ := HR.out 0 h; cases e
    obtain rfl := List.length_eq_zero_iff.1 h0
    have hen : ∀ (w : World) (n c : Nat), (binOp .eql 103 (.slice none n c) (.slice none 0 0)).run Tryz.prog w = .ok (.bool true) w := fun _ _ _ => rfl
    go_enter Tryz.func88, Tryz.ntmps88
    go_wp2
    go_ret
    exact ⟨_, _, rfl, RdA.nil _ _, (fun b hb => by cases hb), Below.refl _ _⟩
  · have hen : ∀ (w : World) (n : Nat), (binOp .eql 103 (.slice (some ⟨b, o, none⟩) n cap) (.slice none 0 0)).run Tryz.prog w = .ok (.bool false) w := fun _ _ => rfl
    by_cases h0 : l.length = 0
    · obtain rfl := List.length_eq_zero_iff.1 h0
      go_enter Tryz.func88, Tryz.ntmps88
      go_wp2
      go_ret
      exact ⟨_, _, rfl, RdA.nil _ _, (fun b hb => by cases hb; exact Nat.le_refl _), below_new _ _⟩
    · have hB := fun w' (hgr : World.grownBy (w.alloc (.cells #[] 112)) w' (Value.slice (some ⟨w.heap.size, 0, none⟩) 0 0).ownBlock) => (below_new w (.cells #[] 112)).grown hgr (by simp) (fun q hq => by cases hq; exact Nat.le_refl _)
      go_enter Tryz.func88, Tryz.ntmps88
      go_wp2_with (at_builtin; refine wpList_appE etyT _ rfl _ _ rfl w.heap.size _ [] rfl (own_new w _) l ⟨b, o, none⟩ cap rfl (fun j u hu => cell_later (below_new _ _) (HR.out.cells j u hu)) (by omega) (by simp; omega) (by simp) _ rfl ?_; intro g cap' w2 hown hgr hat hlt; have HO := Hid.mk hown; clear hown)
      go_ret
      obtain ⟨ad', c', e, h1, h2⟩ := own_rd HO.out
      simp only [List.nil_append, List.length_nil, Nat.zero_add] at e h1
      cases e
      exact ⟨_, _, rfl, h1, fun b hb => (h2 b hb).1, hB _ hgr⟩

end Go.Proofs.YtndjhedoandinaaGreatDoor.TR

/- Rows of entries, third part: the walk of IndexFunc. -/
namespace Go.Proofs.YtndjhedoandinaaGreatDoor.TR
open Go.RowKit

/-- None of the first n is such; the one at k is. -/
def NoP (p : En → Bool) (l : List En) (n : Nat) : Prop := ∀ j, j < n → p (gE l j) = false
def IsP (p : En → Bool) (l : List En) (k : Nat) : Prop := p (gE l k) = true

set_option maxHeartbeats 4000000 in
set_option maxRecDepth 100000 in
theorem indexFunc_c (q : Nat) (lb : Array Value) (eg : ∀ args w, (callFunc q args).run Tryz.prog w = .ok (.enter q args) w) (p : En → Bool) (l : List En) (ad : Option Addr) (cap : Nat) (w : World) (hn : l.length ≤ 1000) (hr : RdA w ad l)
    (hp : ∀ W e, e ∈ l → Below w.heap.size w W → Calls Tryz.prog q (#[e.v] ++ lb) W fun r w' => r = .returned (.bool (p e)) ∧ Below W.heap.size W w') :
    Calls Tryz.prog 153 #[.slice ad l.length cap, .func (.func q) #[] lb] w fun r w' => ((r = .returned (.int .i64 (-1)) ∧ NoP p l l.length) ∨ ∃ k : Nat, k < l.length ∧ r = .returned (.int .i64 (k : Nat)) ∧ IsP p l k ∧ NoP p l k) ∧ Below w.heap.size w w' := by
  have HR := Hid.mk hr
  have HP := Hid.mk hp
  have hnI : (l.length : Int) ≤ 1000 := by omega
  clear hr hn hp
  go_enter Tryz.func153, Tryz.ntmps153
  go_wp2
  go_loopw [5, 8] (fun _ s8 wr => ∃ i : Nat, i ≤ l.length ∧ s8 = .int .i64 (i : Nat) ∧ Below w.heap.size w wr ∧ NoP p l i) (fun _ s8 _ => l.length - (RowKit.intOf s8).toNat)
  case atStart => exact ⟨0, by omega, rfl, Below.refl _ _, fun j hj => absurd hj (Nat.not_lt_zero _)⟩
  case round =>
    obtain ⟨i, hi, rfl, hb, hno⟩ := hrel
    have HB := Hid.mk hb
    have HNO := Hid.mk hno
    clear hno
    by_cases hlt : i < l.length
    · have hlt2 : (i : Int) < l.length := by omega
      have HLT := Hid.mk hlt
      have hib : (i : Int) < 1000 := by omega
      obtain ⟨g, o, rfl, hg, hc⟩ := HR.out i hlt
      have d0 := cell_later hb (hc 0 _ rfl)
      have d1 := cell_later hb (hc 1 _ rfl)
      have d2 := cell_later hb (hc 2 _ rfl)
      have d3 := cell_later hb (hc 3 _ rfl)
      rw [Nat.add_zero] at d0
      have hcall := HP.out wr (gE l i) (gE_mem l i hlt) hb
      clear hc hb hi hlt
      cases hpy : p (gE l i)
      · have HX : Hid (NoP p l (i + 1)) := fun j hj => by
          by_cases h : j = i
          · subst h; exact hpy
          · exact HNO.out j (by omega)
        rw [hpy] at hcall
        clear hpy
        generalize (gE l i) = y at *
        obtain ⟨b0, b1, b2, b3⟩ := y
        simp only [En.v] at *
        go_wp2_with fail
        refine hcall.mono ?_
        rintro e w' ⟨rfl, hb'⟩
        clear hcall
        go_wp2
        exact ⟨⟨i + 1, by have := HLT.out; omega, by go_num, below_tr HB.out hb', HX.out⟩, by have := HLT.out; simp [RowKit.intOf]; omega⟩
      · have HX : Hid (p (gE l i) = true) := hpy
        rw [hpy] at hcall
        clear hpy
        have HY : Hid (∃ k : Nat, k < l.length ∧ k = i ∧ IsP p l k ∧ NoP p l k) := ⟨i, HLT.out, rfl, HX.out, HNO.out⟩
        generalize (gE l i) = y at *
        obtain ⟨b0, b1, b2, b3⟩ := y
        simp only [En.v] at *
        go_wp2_with fail
        refine hcall.mono ?_
        rintro e w' ⟨rfl, hb'⟩
        clear hcall
        go_wp2
        go_ret
        obtain ⟨k, h1, rfl, h2, h3⟩ := HY.out
        exact ⟨Or.inr ⟨k, h1, rfl, h2, h3⟩, below_tr HB.out hb'⟩
    · have hlt2 : ¬ (i : Int) < l.length := by omega
      have HX : Hid (NoP p l l.length) := fun j hj => HNO.out j (by omega)
      clear hb hi hlt
      go_wp2
      go_ret
      exact ⟨Or.inl ⟨rfl, HX.out⟩, HB.out⟩

end Go.Proofs.YtndjhedoandinaaGreatDoor.TR

/- Rows of entries, fourth part: clearing a row's end; the walk of DeleteFunc. -/
namespace Go.Proofs.YtndjhedoandinaaGreatDoor.TR
open Go.RowKit

section
variable {ops : Array Oper} {rest : List Oper} {o : Oper} {a : Act} {Q : Exit → Act → World → Prop}
theorem zero_one (z : Array Value) (n : Nat) (h1 : ∀ u ∈ z.toList, u.oneCell' = true) (hz : z.size ≠ 0) : ∀ u ∈ (Builtin.zeroCells z n).toList, u.oneCell' = true := by
  intro u hu
  simp only [Builtin.zeroCells] at hu
  simp at hu
  obtain ⟨i, hi, rfl⟩ := hu
  have hlt : i % z.size < z.size := Nat.mod_lt _ (by omega)
  rw [getElem!_pos z _ hlt]
  exact h1 _ (by simp)
/-- 'clear' of entries at a row's end. -/
theorem wpList_clearE (w : World) (hgd : o.guard = none) (hd : o.dst = none) (x : Operand) (ho : o.op = .call { callee := .builtin .clear, args := #[x], argTypes := #[103] })
    (g q n c : Nat) (hn : 0 < n) (hx : a.eval x = .slice (some ⟨g, q, none⟩) n c) (cur : Array Value) (t : TypeId) (hg : w.heap[g]? = some (.cells cur t (0, 0))) (hfit : q + n * 4 ≤ cur.size)
    (h : ∀ wq zs, zs.length = n * 4 → wq.heap[g]? = some (.cells (segA cur q zs) t (0, 0)) → Turn (fun i => i = g) w wq → wpList Tryz.prog ops Q rest a wq) : wpList Tryz.prog ops Q (o :: rest) a w := by
  have hz : ∀ w, (zeroValue 112).run Tryz.prog w = .ok e0.v w := Tryz.zeroValue112
  have hzl : (Builtin.zeroCells e0.v.cells n).toList.length = n * 4 := by simp [Builtin.zeroCells, Value.cells]
  have hst := run_storeCells_at Tryz.prog g q t (Builtin.zeroCells e0.v.cells n).toList 0 cur w hg (by rw [hzl]; omega) (zero_one _ _ (e0.one) (by decide))
  simp only [Nat.add_zero] at hst
  have hrun : ∀ ty, (Builtin.clear_ #[103] ty #[.slice (some ⟨g, q, none⟩) n c]).run Tryz.prog w = .ok (.tuple #[]) (w.setRow g (segA cur q (Builtin.zeroCells e0.v.cells n).toList)) := fun ty => by
    obtain ⟨m, rfl⟩ : ∃ m, n = m + 1 := ⟨n - 1, by omega⟩
    simp only [Builtin.clear_]
    simp [run_underlying Tryz.underlying103, hz, hst, segA]
  refine wpList_plain hgd fun K hK => ?_
  unfold Oper.wp execOp
  simp only [ho, resolve, invoke, builtin, Sem.run_bind, Sem.run_pure, Result.andThen_ok, List.map_toArray, List.map_cons, List.map_nil, hx, hrun]
  refine hK _ _ ?_
  rw [hd]
  exact h _ _ hzl (setRow_heap _ _ _ _ _ _ hg) (turn_setRow _ _ _)
end

/-- A row: entries, and what lies behind them. -/
abbrev rowE (dk : List En) (rest : List Value) : Array Value := (ecs dk ++ rest).toArray
theorem rowE_rd {w : World} {g : Nat} {t : TypeId} {dk : List En} {rest : List Value} (h : w.heap[g]? = some (.cells (rowE dk rest) t (0, 0))) : RdA w (some ⟨g, 0, none⟩) dk := fun i hi => by
  refine ⟨g, 0, rfl, block_lt h, fun j u hu => ?_⟩
  have hj : j < 4 := by rw [← ((gE dk i)).len]; exact (List.getElem?_eq_some_iff.1 hu).1
  rw [cell_of_row _ _ _ _ _ _ h, List.getElem?_toArray, Nat.zero_add, List.getElem?_append_left (by rw [ecs_len]; omega), ecs_get dk i j hj hi]
  exact hu
theorem rowE_set (dk : List En) (rest : List Value) (i : Nat) (e : En) (hi : i < dk.length) : segA (rowE dk rest) (i * 4) e.cs = rowE (dk.set i e) rest := by
  unfold segA
  have e1 : dk.set i e = dk.take i ++ e :: dk.drop (i + 1) := List.set_eq_take_append_cons_drop.trans (if_pos hi)
  rw [e1]
  congr 1
  rw [ecs_app]
  show _ = ecs (dk.take i) ++ (e.cs ++ ecs (dk.drop (i + 1))) ++ rest
  rw [List.take_append_of_le_length (by rw [ecs_len]; omega), ecs_take, En.len, List.drop_append_of_le_length (by rw [ecs_len]; omega), show i * 4 + 4 = (i + 1) * 4 by omega, ecs_drop]
  simp only [List.append_assoc]

/-- Half way through: i are kept of the first j. -/
structure KInv (p : En → Bool) (l : List En) (j i : Nat) (dk : List En) : Prop where
  lt : i < j
  len : dk.length = l.length
  low : dk.take i = (l.take j).filter (fun e => !p e)
  high : dk.drop j = l.drop j
theorem take_succ_g (l : List En) (j : Nat) (hj : j < l.length) : l.take (j + 1) = l.take j ++ [(gE l j)] := by
  rw [List.take_add_one, List.getElem?_eq_getElem hj, gE_pos l j hj]; rfl
theorem filt0 {p : En → Bool} {y : En} (h : p y = true) : [y].filter (fun e => !p e) = [] := by simp [h]
theorem filt1 {p : En → Bool} {y : En} (h : p y = false) : [y].filter (fun e => !p e) = [y] := by simp [h]
theorem KInv.start {p : En → Bool} {l : List En} {k : Nat} (hk : k < l.length) (h1 : NoP p l k) (h2 : IsP p l k) : KInv p l (k + 1) k l := by
  refine ⟨by omega, rfl, ?_, rfl⟩
  rw [take_succ_g l k hk, List.filter_append]
  have e1 : [(gE l k)].filter (fun e => !p e) = [] := filt0 h2
  have e2 : (l.take k).filter (fun e => !p e) = l.take k := List.filter_eq_self.2 fun e he => by
    obtain ⟨j, hj, rfl⟩ := List.getElem_of_mem he
    have hjk : j < k := by simp at hj; omega
    have h3 := h1 j hjk
    rw [gE_pos l j (by omega)] at h3
    rw [List.getElem_take, h3]; rfl
  rw [e1, e2, List.append_nil]
theorem KInv.keep {p : En → Bool} {l : List En} {j i : Nat} {dk : List En} (h : KInv p l j i dk) (hj : j < l.length) (hp : p (gE l j) = false) : KInv p l (j + 1) (i + 1) (dk.set i (gE l j)) := by
  have hl := h.lt
  have hn := h.len
  refine ⟨by omega, by simpa using hn, ?_, ?_⟩
  · rw [take_succ_g l j hj, List.filter_append, ← h.low]
    have e1 : [(gE l j)].filter (fun e => !p e) = [(gE l j)] := filt1 hp
    rw [e1, List.take_add_one, List.take_set_of_le (by omega), List.getElem?_set_self (by omega)]
    rfl
  · have hd := congrArg (List.drop 1) h.high
    rw [List.drop_drop, List.drop_drop] at hd
    rw [List.drop_set_of_lt (by omega)]
    exact hd
theorem KInv.skip {p : En → Bool} {l : List En} {j i : Nat} {dk : List En} (h : KInv p l j i dk) (hj : j < l.length) (hp : p (gE l j) = true) : KInv p l (j + 1) i dk := by
  have hl := h.lt
  refine ⟨by omega, h.len, ?_, ?_⟩
  · rw [take_succ_g l j hj, List.filter_append, ← h.low]
    have e1 : [(gE l j)].filter (fun e => !p e) = [] := filt0 hp
    rw [e1, List.append_nil]
  · have hd := congrArg (List.drop 1) h.high
    rwa [List.drop_drop, List.drop_drop] at hd
theorem KInv.get {p : En → Bool} {l : List En} {j i : Nat} {dk : List En} (h : KInv p l j i dk) (hj : j < l.length) : (gE dk j) = (gE l j) := by
  have hn := h.len
  have h2 := congrArg (fun x => x[0]?) h.high
  simp only [List.getElem?_drop, Nat.add_zero] at h2
  rw [List.getElem?_eq_getElem hj, List.getElem?_eq_getElem (by omega : j < dk.length)] at h2
  rw [gE_pos l j hj, gE_pos dk j (by omega)]
  exact Option.some.inj h2
theorem KInv.done {p : En → Bool} {l : List En} {i : Nat} {dk : List En} (h : KInv p l l.length i dk) : dk.take i = l.filter (fun e => !p e) ∧ i = (l.filter (fun e => !p e)).length := by
  have h1 := h.low
  rw [List.take_length] at h1
  refine ⟨h1, ?_⟩
  rw [← h1, List.length_take, h.len]
  have := h.lt
  omega

/-- Behind DeleteFunc: the row has what is kept. -/
theorem own_kept {w : World} {base g : Nat} {t : TypeId} {cap n i : Nat} {dk : List En} {rest zs : List Value} (hb : base ≤ g) (hi : i ≤ n) (hn : n ≤ cap) (hcap : cap ≤ maxLen) (hd : dk.length = n) (hs : (rowE dk rest).size = cap * 4) (hz : zs.length = (n - i) * 4)
    (h : w.heap[g]? = some (.cells (segA (rowE dk rest) (i * 4) zs) t (0, 0))) : w.ownsRow base t 4 (.slice (some ⟨g, 0, none⟩) i cap) (dk.take i).length (ecs (dk.take i)) := by
  have hl : (dk.take i).length = i := by rw [List.length_take]; omega
  have hsz : (ecs dk ++ rest).length = cap * 4 := by simpa using hs
  refine ⟨by rw [ecs_len], Or.inr ⟨g, cap, _, by rw [hl], hb, h, by omega, hcap, ?_, ?_⟩⟩
  · unfold segA
    have h1 := ecs_len dk
    rw [List.size_toArray, List.length_append, List.length_append, List.length_take, List.length_drop, hsz, hz]
    rw [hd] at h1
    omega
  · unfold segA
    simp only
    rw [hl, List.append_assoc, List.take_append_of_le_length (by rw [List.length_take, hsz]; omega), List.take_take, Nat.min_self, List.take_append_of_le_length (by rw [ecs_len]; omega), ecs_take]

end Go.Proofs.YtndjhedoandinaaGreatDoor.TR

/- Rows of entries, fifth part: the walk of DeleteFunc. -/
namespace Go.Proofs.YtndjhedoandinaaGreatDoor.TR
open Go.RowKit

theorem info_en : (Tryz.prog.info? 112).map (·.size) = some 4 := by kernel_rfl
theorem turn_b {w w1 w2 : World} {X : Nat → Prop} (h : Turn X w w1) (hb : Below w1.heap.size w1 w2) : Turn X w w2 := h.trans (turn_of_below (fun _ => False) hb) (fun _ _ h => absurd h id)
/-- The block of a value's row. -/
def OwnB (v : Value) : Nat → Prop := fun i => v.ownBlock = some i

set_option maxHeartbeats 8000000 in
set_option maxRecDepth 100000 in
theorem deleteFunc_row (q : Nat) (lb : Array Value) (eg : ∀ args w, (callFunc q args).run Tryz.prog w = .ok (.enter q args) w) (p : En → Bool) (l : List En) (g cap base : Nat) (rest : List Value) (w : World) (hn : l.length ≤ 1000) (hcap : l.length ≤ cap) (hcm : cap ≤ maxLen) (hbase : base ≤ g)
    (hg : w.heap[g]? = some (.cells (rowE l rest) 112 (0, 0))) (hs : (rowE l rest).size = cap * 4)
    (hp : ∀ W e, e ∈ l → Turn (fun i => i = g) w W → Calls Tryz.prog q (#[e.v] ++ lb) W fun r w' => r = .returned (.bool (p e)) ∧ Below W.heap.size W w') :
    Calls Tryz.prog 136 #[.slice (some ⟨g, 0, none⟩) l.length cap, .func (.func q) #[] lb] w fun r w' => r = .returned (.slice (some ⟨g, 0, none⟩) (l.filter (fun e => !p e)).length cap) ∧ w'.ownsRow base 112 4 (.slice (some ⟨g, 0, none⟩) (l.filter (fun e => !p e)).length cap) (l.filter (fun e => !p e)).length (ecs (l.filter (fun e => !p e))) ∧ Turn (fun i => i = g) w w' := by
  have hI := indexFunc_c q lb eg p l (some ⟨g, 0, none⟩) cap w hn (rowE_rd hg) (fun W e he hb => hp W e he (turn_of_below _ hb))
  have HG := Hid.mk hg
  have HP := Hid.mk hp
  have HS := Hid.mk hs
  have HC := Hid.mk (And.intro hcap (And.intro hcm hbase))
  have hnI : (l.length : Int) ≤ 1000 := by omega
  have hcI : (l.length : Int) ≤ (cap : Int) := by omega
  clear hg hp hs hcap hcm hbase hn
  go_enter Tryz.func136, Tryz.ntmps136
  go_wp2_with fail
  refine hI.mono ?_
  rintro e w1 ⟨⟨rfl, hno⟩ | ⟨k, hk, rfl, hno, hyes⟩, hb⟩
  · have HX : Hid (l.filter (fun e => !p e) = l) := List.filter_eq_self.2 fun e he => by
      obtain ⟨j, hj, rfl⟩ := List.getElem_of_mem he
      have := hno j hj
      rw [gE_pos l j hj] at this
      rw [this]; rfl
    have HB := Hid.mk hb
    clear hI hno hb
    go_wp2
    go_ret
    rw [HX.out]
    refine ⟨rfl, ⟨ecs_len l, Or.inr ⟨g, cap, _, rfl, HC.out.2.2, block_later HB.out HG.out, HC.out.1, HC.out.2.1, HS.out, ?_⟩⟩, turn_of_below _ HB.out⟩
    show (ecs l ++ rest).take (l.length * 4) = ecs l
    rw [← ecs_len, List.take_left]
  · have HB := Hid.mk hb
    have HI0 := Hid.mk (KInv.start hk hyes hno)
    have hkI : (k : Int) < l.length := by omega
    have HKL := Hid.mk hk
    clear hI hno hyes hb hk
    have hk1 : ¬ ((k : Int) = -1) := by omega
    go_wp2
    go_loopw [5, 6, 7] (fun s5 s6 _ wr => ∃ (i j : Nat) (dk : List En), s5 = .int .i64 (i : Nat) ∧ s6 = .int .i64 (j : Nat) ∧ j ≤ l.length ∧ KInv p l j i dk ∧ wr.heap[g]? = some (.cells (rowE dk rest) 112 (0, 0)) ∧ Turn (fun i => i = g) w wr) (fun _ s6 _ _ => l.length - (RowKit.intOf s6).toNat)
    case atStart => exact ⟨k, k + 1, l, rfl, by go_num, HKL.out, HI0.out, block_later HB.out HG.out, turn_of_below _ HB.out⟩
    case round =>
      obtain ⟨i, j, dk, rfl, rfl, hjl, hK, hgr, hT⟩ := hrel
      have HK := Hid.mk hK
      have HGR := Hid.mk hgr
      have HTU := Hid.mk hT
      have hij := hK.lt
      have hdl := hK.len
      by_cases hlt : j < l.length
      · have hlt2 : (j : Int) < l.length := by omega
        have HLT := Hid.mk hlt
        have hjb : (j : Int) < 1000 := by omega
        have hiI : (i : Int) < l.length := by omega
        have hib : (i : Int) < 1000 := by omega
        obtain ⟨g', o', e1, -, hc⟩ := rowE_rd hgr j (by omega)
        cases e1
        rw [hK.get hlt] at hc
        have d0 := hc 0 _ rfl
        have d1 := hc 1 _ rfl
        have d2 := hc 2 _ rfl
        have d3 := hc 3 _ rfl
        simp only [Nat.add_zero, Nat.zero_add] at d0 d1 d2 d3
        have HFIT : Hid (i * 4 + 4 ≤ (rowE dk rest).size) := by
          show _ ≤ _
          rw [List.size_toArray, List.length_append, ecs_len]; omega
        have HST := Hid.mk (rowE_set dk rest i (gE l j) (by omega))
        have HKP := Hid.mk (fun hp => hK.keep hlt hp)
        have HSK := Hid.mk (fun hp => hK.skip hlt hp)
        have HME := Hid.mk (gE_mem l j hlt)
        clear hK hgr hT hc hij hdl hlt hjl
        cases hpy : p (gE l j)
        · have HKK := Hid.mk (HKP.out hpy)
          have hcall := fun W hW => HP.out W (gE l j) HME.out hW
          rw [hpy] at hcall
          clear hpy HKP HSK HME
          generalize (gE l j) = y at *
          obtain ⟨b0, b1, b2, b3⟩ := y
          simp only [En.v, En.cs] at *
          have HCA := Hid.mk hcall
          clear hcall
          go_wp2_with fail
          refine (HCA.out _ (turn_b HTU.out (below_new _ _))).mono ?_
          rintro e w' ⟨rfl, hb'⟩
          have HB2 := Hid.mk (below_tr (below_new _ _) hb')
          have hK7 := block_later hb' (heap_alloc_new wr (.cells #[.int .i64 b0, .int .u64 b1, .int .i64 b2, .int .u64 b3] 112))
          obtain ⟨q0, q1, q2, q3⟩ := cells4 hK7
          clear hK7 hb' HCA d0 d1 d2 d3
          go_wp2_with (first
            | (refine wpList_store_segTo rfl 112 _ _ rfl rfl g (i * 4) _ #[.int .i64 b0, .int .u64 b1, .int .i64 b2, .int .u64 b3] rfl rfl rfl 112 _ (block_later HB2.out HGR.out) HFIT.out info_en (by simp [Value.oneCell']) _ HST.out ?_
               intro w8 hk8 ht8)
            | fail)
          go_roundw
          case rel => exact ⟨_, _, _, _, _, _, _, _, _, _, _, _, _, _, _, _, _, _, _, _, _, _, _, ⟨i + 1, j + 1, _, by go_num, by go_num, by have := HLT.out; omega, HKK.out, hk8, (turn_b HTU.out HB2.out).trans ht8 (fun _ _ h => h)⟩, rfl⟩
          case measure => have := HLT.out; simp [RowKit.intOf]; omega
        · have HKK := Hid.mk (HSK.out hpy)
          have hcall := fun W hW => HP.out W (gE l j) HME.out hW
          rw [hpy] at hcall
          clear hpy HKP HSK HST HME
          generalize (gE l j) = y at *
          obtain ⟨b0, b1, b2, b3⟩ := y
          simp only [En.v] at *
          have HCA := Hid.mk hcall
          clear hcall
          go_wp2_with fail
          refine (HCA.out _ (turn_b HTU.out (below_new _ _))).mono ?_
          rintro e w' ⟨rfl, hb'⟩
          have HB2 := Hid.mk (below_tr (below_new _ _) hb')
          clear hb' HCA d0 d1 d2 d3
          go_wp2
          go_roundw
          case rel => exact ⟨_, _, _, _, _, _, _, _, _, _, _, _, _, _, _, _, _, _, _, _, _, _, _, ⟨i, j + 1, dk, rfl, by go_num, by have := HLT.out; omega, HKK.out, block_later HB2.out HGR.out, turn_b HTU.out HB2.out⟩, rfl⟩
          case measure => have := HLT.out; simp [RowKit.intOf]; omega
      · obtain rfl : j = l.length := by omega
        have hlt2 : ¬ (l.length : Int) < l.length := by omega
        have hiI : (i : Int) < l.length := by omega
        have hin : i ≤ l.length := by omega
        have HIN := Hid.mk hij
        have hicap : (i : Int) ≤ (cap : Int) := by omega
        have HDN := Hid.mk hK.done
        have HDL := Hid.mk hdl
        have HSZ : Hid ((rowE dk rest).size = cap * 4) := by
          have := HS.out
          show _ = _
          rw [List.size_toArray, List.length_append, ecs_len] at this ⊢
          rw [hdl]; exact this
        clear hK hgr hT hdl hlt hjl hij
        go_wp2_with (first
          | (refine wpList_clearE _ rfl rfl _ rfl g (i * 4) (l.length - i) (cap - i) (by have := HIN.out; omega) rfl _ _ HGR.out (by rw [HSZ.out]; have := HC.out.1; have := HIN.out; omega) ?_
             intro w8 zs hzl hk8 ht8)
          | fail)
        go_ret
        have HO := own_kept HC.out.2.2 hin HC.out.1 HC.out.2.1 HDL.out HSZ.out hzl hk8
        rw [HDN.out.1] at HO
        rw [← HDN.out.2] at HO ⊢
        exact ⟨rfl, HO, HTU.out.trans ht8 (fun _ _ h => h)⟩

end Go.Proofs.YtndjhedoandinaaGreatDoor.TR

/- Rows of entries, sixth part: the walk of Delete of one entry. -/
namespace Go.Proofs.YtndjhedoandinaaGreatDoor.TR
open Go.RowKit

/-- Entries appended in place, as one step of a region that draws. -/
theorem step_roomE {ops : Array Oper} {o : Oper} {a : Act} {Q : Exit → Act → World → Prop} {K : Act → World → Prop} {E : Prop} (w : World) (hgd : o.guard = none) (s x : Operand) (hop : o.op = .call { callee := .builtin .append, args := #[s, x], argTypes := #[103, 103] })
    (g n cap : Nat) (hs : a.eval s = .slice (some ⟨g, 0, none⟩) n cap) (cur : Array Value) (hg : w.heap[g]? = some (.cells cur 112 (0, 0))) (m : List En) (ad : Addr) (k c : Nat) (hk : k = m.length) (hx : a.eval x = .slice (some ad) k c) (hc : ∀ j u, (ecs m)[j]? = some u → w.cell? (ad.add j) = some u) (M : Nat) (hM : n + k = M) (hroom : M ≤ cap) (hfit : M * 4 ≤ cur.size)
    (h : ∀ wq, wq.heap[g]? = some (.cells (segA cur (n * 4) (ecs m)) 112 (0, 0)) → Turn (fun i => i = g) w wq → K (a.put o.dst (.slice (some ⟨g, 0, none⟩) M cap)) wq) :
    if Region.wanted o (yielded ops a.tmps) = true then Oper.wp Tryz.prog o a w K Q else E := by
  have hw : Region.wanted o (yielded ops a.tmps) = true := by simp [Region.wanted, hgd]
  rw [if_pos hw]
  subst hk hM
  obtain ⟨i0, hi, hz0, hz1, hz2⟩ := infoP etyT.info
  have hrun := run_append_room (P := Tryz.prog) w 103 o.type 112 i0 etyT.sl hi g n cap cur hg ad m.length c (ecs m) (by rw [hz1, ecs_len]) hc (ecs_one m) hroom (by rw [hz1, ecs_len]; omega)
  rw [hz1] at hrun
  unfold Oper.wp execOp
  simp only [hop, resolve, invoke, builtin, Sem.run_bind, Sem.run_pure, Result.andThen_ok, List.map_toArray, List.map_cons, List.map_nil, hs, hx, hrun]
  exact h _ (setRow_heap _ _ _ _ _ _ hg) (turn_setRow _ _ _)
theorem seg_size (cur : Array Value) (o : Nat) (vs : List Value) (h : o + vs.length ≤ cur.size) : (segA cur o vs).size = cur.size := by
  unfold segA
  rw [List.size_toArray, List.length_append, List.length_append, List.length_take, List.length_drop, Array.length_toList]
  omega
theorem seg_take (cur : Array Value) (o : Nat) (vs : List Value) (h : o + vs.length ≤ cur.size) : (segA cur o vs).toList.take (o + vs.length) = cur.toList.take o ++ vs := by
  unfold segA
  simp only
  have : (cur.toList.take o ++ vs).length = o + vs.length := by rw [List.length_append, List.length_take, Array.length_toList]; omega
  rw [← this, List.take_left]
theorem seg_take0 (cur : Array Value) (o : Nat) (vs : List Value) (h : o + vs.length ≤ cur.size) : (segA cur o vs).toList.take o = cur.toList.take o := by
  unfold segA
  simp only
  rw [List.append_assoc, List.take_append_of_le_length (by rw [List.length_take, Array.length_toList]; omega), List.take_take, Nat.min_self]
theorem own_erased {w : World} {base g : Nat} {t : TypeId} {cap i : Nat} {l : List En} {rest zs : List Value} (hb : base ≤ g) (hi : i < l.length) (hn : l.length ≤ cap) (hcap : cap ≤ maxLen) (hs : (rowE l rest).size = cap * 4) (hz : zs.length = 4)
    (h : w.heap[g]? = some (.cells (segA (segA (rowE l rest) (i * 4) (ecs (l.drop (i + 1)))) ((l.length - 1) * 4) zs) t (0, 0))) : w.ownsRow base t 4 (.slice (some ⟨g, 0, none⟩) (l.length - 1) cap) (l.eraseIdx i).length (ecs (l.eraseIdx i)) := by
  have hl : (l.eraseIdx i).length = l.length - 1 := List.length_eraseIdx_of_lt hi
  have hd : (ecs (l.drop (i + 1))).length = (l.length - (i + 1)) * 4 := by rw [ecs_len, List.length_drop]
  have h1 := seg_size (rowE l rest) (i * 4) (ecs (l.drop (i + 1))) (by rw [hd, hs]; omega)
  have h2 := seg_size (segA (rowE l rest) (i * 4) (ecs (l.drop (i + 1)))) ((l.length - 1) * 4) zs (by rw [h1, hs, hz]; omega)
  refine ⟨by rw [ecs_len], Or.inr ⟨g, cap, _, by rw [hl], hb, h, by omega, hcap, by rw [h2, h1, hs], ?_⟩⟩
  rw [hl, seg_take0 _ _ _ (by rw [h1, hs, hz]; omega), show (l.length - 1) * 4 = i * 4 + (ecs (l.drop (i + 1))).length by rw [hd]; omega, seg_take _ _ _ (by rw [hd, hs]; omega)]
  show (ecs l ++ rest).take (i * 4) ++ _ = _
  rw [List.take_append_of_le_length (by rw [ecs_len]; omega), ecs_take, ← ecs_app, List.eraseIdx_eq_take_drop_succ]

set_option maxHeartbeats 8000000 in
set_option maxRecDepth 100000 in
theorem delete_row (l : List En) (i g cap base : Nat) (rest : List Value) (w : World) (hn : l.length ≤ 1000) (hi : i < l.length) (hcap : l.length ≤ cap) (hcm : cap ≤ maxLen) (hbase : base ≤ g)
    (hg : w.heap[g]? = some (.cells (rowE l rest) 112 (0, 0))) (hs : (rowE l rest).size = cap * 4) :
    Calls Tryz.prog 97 #[.slice (some ⟨g, 0, none⟩) l.length cap, .int .i64 (i : Nat), .int .i64 ((i : Int) + 1)] w fun r w' => r = .returned (.slice (some ⟨g, 0, none⟩) (l.length - 1) cap) ∧ w'.ownsRow base 112 4 (.slice (some ⟨g, 0, none⟩) (l.length - 1) cap) (l.eraseIdx i).length (ecs (l.eraseIdx i)) ∧ Turn (fun i => i = g) w w' := by
  have HG := Hid.mk hg
  have HS := Hid.mk hs
  have HC := Hid.mk (And.intro hcap (And.intro hcm hbase))
  have HI := Hid.mk hi
  have hnI : (l.length : Int) ≤ 1000 := by omega
  have hcI : (l.length : Int) ≤ (cap : Int) := by omega
  have hiI : (i : Int) < (l.length : Int) := by omega
  have hi1 : (i : Int) + 1 ≤ (l.length : Int) := by omega
  have hic : (i : Int) + 1 ≤ (cap : Int) := by omega
  have hm : (cap : Int) ≤ 9223372036854775807 := by unfold maxLen at hcm; omega
  obtain ⟨M, hM⟩ : ∃ M, M = l.length - 1 := ⟨_, rfl⟩
  have HM := Hid.mk hM
  have hMi : (M : Int) < (l.length : Int) := by omega
  have hMc : (M : Int) ≤ (cap : Int) := by omega
  have hMn : i + (l.length - (i + 1)) = M := by omega
  have hMcap : M ≤ cap := by omega
  have HFIT : Hid (M * 4 ≤ (rowE l rest).size) := by show _ ≤ _; rw [hs]; omega
  have HSZ := Hid.mk (seg_size (rowE l rest) (i * 4) (ecs (l.drop (i + 1))) (by rw [ecs_len, List.length_drop, hs]; omega))
  have HML : Hid (l.length - M = 1) := by show _ = _; omega
  rw [← hM]
  clear hg hs hcap hcm hbase hn hi hM
  have hRD := (rowE_rd HG.out).drop (i + 1)
  rw [Nat.zero_add] at hRD
  have HN : Hid (l.length - (i + 1) = (l.drop (i + 1)).length) := (List.length_drop ..).symm
  have HRD := Hid.mk hRD
  clear hRD
  obtain ⟨A, hA, hsrc⟩ : ∃ A : Addr, (if cap = i + 1 then some (⟨g, 0, none⟩ : Addr) else some ⟨g, (i + 1) * 4, none⟩) = some A ∧ Hid (∀ j u, (ecs (l.drop (i + 1)))[j]? = some u → w.cell? (A.add j) = some u) := by
    by_cases h : cap = i + 1
    · refine ⟨⟨g, 0, none⟩, by simp [h], fun j u hu => ?_⟩
      rw [List.drop_eq_nil_of_le (by omega)] at hu
      cases hu
    · exact ⟨⟨g, (i + 1) * 4, none⟩, by simp [h], HRD.out.cells⟩
  have nic : i ≤ cap := by omega
  have nil1 : i + 1 ≤ l.length := by omega
  have nic1 : i + 1 ≤ cap := by omega
  have h0i : (0 : Int) ≤ (i : Int) + 1 := by omega
  clear HRD
  go_enter Tryz.func97, Tryz.ntmps97
  go_wp2
  go_region_law
    ((refine step_roomE _ rfl _ _ rfl g i cap rfl _ (block_later (Below.refl _ _).drew HG.out) (l.drop (i + 1)) A _ (cap - (i + 1)) HN.out (by rfl) (fun j u hu => cell_later (Below.refl _ _).drew (hsrc.out j u hu)) M hMn hMcap HFIT.out ?_
      intro w2 hk2 ht2
      have HK2 := Hid.mk hk2
      have HT2 := Hid.mk ht2
      clear hk2 ht2))
  have hMl : M ≤ l.length := by omega
  have hMne : ¬ (cap = M) := by omega
  clear hA hsrc hMn nil1 nic1 nic
  go_wp2_with (first
    | (refine wpList_clearE _ rfl rfl _ rfl g (M * 4) (l.length - M) (cap - M) (by have := HML.out; omega) rfl _ _ HK2.out (by rw [HSZ.out, HML.out]; have := HFIT.out; have := HS.out; have := HM.out; have := HC.out.1; have := HI.out; omega) ?_
       intro w8 zs hzl hk8 ht8)
    | fail)
  go_ret
  rw [HML.out, Nat.one_mul] at hzl
  have hk9 := hk8
  rw [HM.out] at hk9
  have HO := own_erased HC.out.2.2 HI.out HC.out.1 HC.out.2.1 HS.out hzl hk9
  rw [← HM.out] at HO
  exact ⟨rfl, HO, ((turn_of_below _ (Below.refl _ _).drew).trans HT2.out (fun _ _ h => h)).trans ht8 (fun _ _ h => h)⟩

end Go.Proofs.YtndjhedoandinaaGreatDoor.TR

/- Buffers: what one holds in memory; the walks of New, List, Drop. -/
namespace Go.Proofs.YtndjhedoandinaaGreatDoor.TR
open Go.RowKit

/-- A buffer at the block t, its row the value v; X: the blocks that are its own. -/
structure BufV (w : World) (X : Nat → Prop) (t : Nat) (most : Int) (v : Value) (l : List En) : Prop where
  row : w.heap[t]? = some (.cells #[.int .i64 most, v] 176 (0, 0))
  own : w.ownsRow 0 112 4 v l.length (ecs l)
  xg : ∀ g, v.ownBlock = some g → X g ∧ g ≠ t
  xt : X t
  lt : ∀ i, X i → i < w.heap.size
  ok : ∀ e ∈ l, e.okR
def Buf (w : World) (X : Nat → Prop) (t : Nat) (most : Int) (l : List En) : Prop := ∃ v, BufV w X t most v l
theorem own_keep {w w' : World} {b : Nat} {T : TypeId} {v : Value} {n : Nat} {xs : List Value} (h : w.ownsRow b T 4 v n xs) (hb : ∀ g, v.ownBlock = some g → w'.heap[g]? = w.heap[g]?) : w'.ownsRow b T 4 v n xs := by
  refine ⟨h.1, ?_⟩
  rcases h.2 with hn | ⟨g, cap, cur, rfl, h1, hg, r⟩
  · exact Or.inl hn
  · exact Or.inr ⟨g, cap, cur, rfl, h1, (hb g rfl).trans hg, r⟩
theorem BufV.kept {w w' : World} {X : Nat → Prop} {t : Nat} {most : Int} {v : Value} {l : List En} (h : BufV w X t most v l) (hb : ∀ i, X i → w'.heap[i]? = w.heap[i]?) (hs : w.heap.size ≤ w'.heap.size) : BufV w' X t most v l :=
  ⟨(hb t h.xt).trans h.row, own_keep h.own (fun g hg => hb g (h.xg g hg).1), h.xg, h.xt, fun i hi => Nat.lt_of_lt_of_le (h.lt i hi) hs, h.ok⟩
theorem BufV.later {w w' : World} {X : Nat → Prop} {t : Nat} {most : Int} {v : Value} {l : List En} (h : BufV w X t most v l) (hb : Below w.heap.size w w') : BufV w' X t most v l :=
  h.kept (fun i hi => hb.block i (h.lt i hi)) hb.size
theorem Buf.later {w w' : World} {X : Nat → Prop} {t : Nat} {most : Int} {l : List En} (h : Buf w X t most l) (hb : Below w.heap.size w w') : Buf w' X t most l := by
  obtain ⟨v, h⟩ := h
  exact ⟨v, h.later hb⟩
/-- Its row, opened. -/
theorem BufV.form {w : World} {X : Nat → Prop} {t : Nat} {most : Int} {v : Value} {l : List En} (h : BufV w X t most v l) : ∃ ad cap, v = .slice ad l.length cap ∧ (ad = none ∨ ∃ g o, ad = some ⟨g, o, none⟩) ∧ RdA w ad l := by
  obtain ⟨ad, cap, rfl, hr, -⟩ := own_rd h.own
  refine ⟨ad, cap, rfl, ?_, hr⟩
  rcases h.own.2 with ⟨e, -⟩ | ⟨g, c, cur, e, -⟩
  · simp only [Value.slice.injEq] at e; exact Or.inl e.1
  · simp only [Value.slice.injEq] at e; exact Or.inr ⟨g, 0, e.1⟩
theorem row2c {w : World} {K : Nat} {a b : Value} {T : TypeId} (h : w.heap[K]? = some (.cells #[a, b] T (0, 0))) : w.cell? ⟨K, 0, none⟩ = some a ∧ w.cell? ⟨K, 1, none⟩ = some b :=
  ⟨(cell_of_row _ _ _ _ _ _ h).trans rfl, (cell_of_row _ _ _ _ _ _ h).trans rfl⟩

set_option maxHeartbeats 1000000 in
theorem new_bad (m : Int) (h : m < 1 ∨ 64 < m) (w : World) :
    Calls Tryz.prog 77 #[.int .i64 m] w fun r w' => r = .returned (.tuple #[.pointer none, .int .i64 12]) ∧ w = w' := by
  by_cases h1 : m < 1
  · have d1 : decide (m < 1) = true := decide_eq_true h1
    go_enter Tryz.func77, Tryz.ntmps77
    go_wp2
    go_ret2
    exact ⟨rfl, rfl⟩
  · have h2 : 64 < m := by omega
    have d1 : decide (m < 1) = false := decide_eq_false h1
    have d2 : decide (64 < m) = true := decide_eq_true h2
    go_enter Tryz.func77, Tryz.ntmps77
    go_wp2
    go_ret2
    exact ⟨rfl, rfl⟩
set_option maxHeartbeats 1000000 in
theorem new_ok (m : Int) (h1 : 1 ≤ m) (h2 : m ≤ 64) (w : World) :
    Calls Tryz.prog 77 #[.int .i64 m] w fun r w' => r = .returned (.tuple #[.pointer (some ⟨w.heap.size, 0, none⟩), .int .i64 0]) ∧ Below w.heap.size w w' ∧ Buf w' (fun i => i = w.heap.size) w.heap.size m [] := by
  have d1 : decide (m < 1) = false := decide_eq_false (by omega)
  have d2 : decide (64 < m) = false := decide_eq_false (by omega)
  have HB : Hid (Buf (w.alloc (.cells #[.int .i64 m, .slice none 0 0] 176)) (fun i => i = w.heap.size) w.heap.size m []) :=
    ⟨_, heap_alloc_new _ _, World.ownsRow_nil _ _ _ _, (fun g hg => by cases hg), rfl, (fun i hi => by rw [hi]; simp), (fun e he => by cases he)⟩
  go_enter Tryz.func77, Tryz.ntmps77
  go_wp2
  go_ret2
  exact ⟨rfl, below_new _ _, HB.out⟩

set_option maxHeartbeats 1000000 in
theorem list_c {w : World} {X : Nat → Prop} {t : Nat} {most : Int} {l : List En} (h : Buf w X t most l) (hn : l.length ≤ 1000) :
    Calls Tryz.prog 49 #[.pointer (some ⟨t, 0, none⟩)] w fun r w' => ∃ ad cap, r = .returned (.slice ad l.length cap) ∧ RdA w' ad l ∧ (∀ b, ad = some b → w.heap.size ≤ b.block) ∧ Below w.heap.size w w' := by
  obtain ⟨v, h⟩ := h
  obtain ⟨ad, cap, rfl, hf, hr⟩ := h.form
  obtain ⟨-, c1⟩ := row2c h.row
  have hc := clone_c l ad cap hf hn w hr
  clear h hf hr
  go_enter Tryz.func49, Tryz.ntmps49
  go_wp2_with fail
  refine hc.mono ?_
  rintro e w1 ⟨ad', cap', rfl, hr, hb, hB⟩
  clear hc c1
  go_wp2
  go_ret
  exact ⟨_, _, rfl, hr, hb, hB⟩

theorem info_sl : (Tryz.prog.info? 103).map (·.size) = some 1 := by kernel_rfl
/-- Behind a change of its row in its own block, and a store of the new slice. -/
theorem BufV.turned {w w1 w2 : World} {X : Nat → Prop} {t : Nat} {most : Int} {v v' : Value} {l l' : List En} (h : BufV w X t most v l) (ht : Turn (OwnB v) w w1) (ho : w1.ownsRow 0 112 4 v' l'.length (ecs l')) (hv : v'.ownBlock = v.ownBlock) (hr : w2.heap[t]? = some (.cells #[.int .i64 most, v'] 176 (0, 0))) (h2 : Turn (fun i => i = t) w1 w2) (hok : ∀ e ∈ l', e.okR) :
    BufV w2 X t most v' l' ∧ Turn X w w2 := by
  have hx : ∀ g, v'.ownBlock = some g → X g ∧ g ≠ t := fun g hg => h.xg g (hv ▸ hg)
  refine ⟨⟨hr, own_keep ho (fun g hg => h2.block g ?_ (hx g hg).2), hx, h.xt, fun i hi => Nat.lt_of_lt_of_le (h.lt i hi) (Nat.le_trans ht.size h2.size), hok⟩, ?_⟩
  · exact (ho.lt g hg).2
  · refine Turn.trans (X := X) (Y := fun i => i = t) ⟨ht.os, ht.tape, ht.output, ht.size, fun i hi hX => ht.block i hi (fun h3 => hX (h.xg i h3).1)⟩ h2 (fun i _ hi => by rw [hi]; exact h.xt)

set_option maxHeartbeats 2000000 in
theorem drop_no {w : World} {X : Nat → Prop} {t : Nat} {most : Int} {l : List En} (h : Buf w X t most l) (n : Int) (hn : n < 0 ∨ (l.length : Int) ≤ n) (hl : l.length ≤ 1000) :
    Calls Tryz.prog 54 #[.pointer (some ⟨t, 0, none⟩), .int .i64 n] w fun r w' => r = .returned (.bool false) ∧ w = w' := by
  obtain ⟨v, h⟩ := h
  obtain ⟨ad, cap, rfl, hf, hr⟩ := h.form
  obtain ⟨-, c1⟩ := row2c h.row
  have hlI : (l.length : Int) ≤ 1000 := by omega
  clear h hf hr hl
  by_cases h1 : n < 0
  · have d1 : decide (n < 0) = true := decide_eq_true h1
    go_enter Tryz.func54, Tryz.ntmps54
    go_wp2
    go_ret
    exact ⟨rfl, rfl⟩
  · have d1 : decide (n < 0) = false := decide_eq_false h1
    have h2 : (l.length : Int) ≤ n := by omega
    have d2 : decide ((l.length : Int) ≤ n) = true := decide_eq_true h2
    go_enter Tryz.func54, Tryz.ntmps54
    go_wp2
    go_ret
    exact ⟨rfl, rfl⟩

set_option maxHeartbeats 2000000 in
theorem drop_yes {w : World} {X : Nat → Prop} {t : Nat} {most : Int} {l : List En} (h : Buf w X t most l) (n : Nat) (hn : n < l.length) (hl : l.length ≤ 1000) :
    Calls Tryz.prog 54 #[.pointer (some ⟨t, 0, none⟩), .int .i64 (n : Nat)] w fun r w' => r = .returned (.bool true) ∧ Buf w' X t most (l.eraseIdx n) ∧ Turn X w w' := by
  obtain ⟨v, h⟩ := h
  obtain ⟨-, c1⟩ := row2c h.row
  have HH := Hid.mk h
  rcases h.own.2 with ⟨-, h0⟩ | ⟨g, cap, cur, rfl, hb, hg, h1, h2, h3, h4⟩
  · omega
  have hcur : cur = rowE l (cur.toList.drop (l.length * 4)) := by
    unfold rowE
    rw [← h4, List.take_append_drop]
  rw [hcur] at hg h3
  have hD := delete_row l n g cap 0 _ w hl hn h1 h2 hb hg h3
  have hlI : (l.length : Int) ≤ 1000 := by omega
  have hnI : (n : Int) < (l.length : Int) := by omega
  have d1 : decide ((n : Int) < 0) = false := decide_eq_false (by omega)
  have d2 : decide (l.length ≤ n) = false := decide_eq_false (by omega)
  have d2' : ¬ l.length ≤ n := by omega
  have HOK : Hid (∀ e ∈ l.eraseIdx n, e.okR) := fun e he => h.ok e (List.mem_of_mem_eraseIdx he)
  have hne := (h.xg g rfl).2
  clear h hg h1 h2 h3 h4 hcur hb hl hn
  go_enter Tryz.func54, Tryz.ntmps54
  go_wp2_with fail
  refine hD.mono ?_
  rintro e w1 ⟨rfl, ho, ht⟩
  have HR1 := Hid.mk (block_turn ht HH.out.row (fun h => hne h.symm))
  have HO := Hid.mk ho
  have HT := Hid.mk ht
  clear hD ho ht c1
  go_wp2_with (first
    | (refine wpList_store_segTo rfl 103 _ _ rfl rfl t 1 _ #[.slice (some ⟨g, 0, none⟩) (l.length - 1) cap] rfl rfl rfl 176 _ HR1.out (show 1 + 1 ≤ 2 by decide) info_sl (by simp [Value.oneCell']) #[.int .i64 most, .slice (some ⟨g, 0, none⟩) (l.length - 1) cap] rfl ?_
       intro w8 hk8 ht8)
    | fail)
  go_ret
  have hfin := HH.out.turned (v' := .slice (some ⟨g, 0, none⟩) (l.length - 1) cap) (Turn.mk HT.out.os HT.out.tape HT.out.output HT.out.size fun i hi hX => HT.out.block i hi fun h3 => hX (by rw [h3]; rfl)) HO.out rfl hk8 ht8 HOK.out
  exact ⟨rfl, ⟨_, hfin.1⟩, hfin.2⟩

end Go.Proofs.YtndjhedoandinaaGreatDoor.TR

/- Buffers: the walk of Fill. -/
namespace Go.Proofs.YtndjhedoandinaaGreatDoor.TR
open Go.RowKit

def fillN (e : En) : Int := if rightE e = true then 0 else 10
def fillL (l : List En) (most : Int) (e : En) : List En := if rightE e = true then (if memB e l = true then l else if most < (l.length : Int) + 1 then (l ++ [e]).eraseIdx 0 else l ++ [e]) else l
/-- X, and what is new. -/
def Xp (X : Nat → Prop) (w w' : World) : Nat → Prop := fun i => X i ∨ (w.heap.size ≤ i ∧ i < w'.heap.size)
theorem Buf.wide {w : World} {X Y : Nat → Prop} {t : Nat} {most : Int} {l : List En} (h : Buf w X t most l) (h1 : ∀ i, X i → Y i) (h2 : ∀ i, Y i → i < w.heap.size) : Buf w Y t most l := by
  obtain ⟨v, h⟩ := h
  exact ⟨v, h.row, h.own, fun g hg => ⟨h1 _ (h.xg g hg).1, (h.xg g hg).2⟩, h1 _ h.xt, h2, h.ok⟩
theorem Buf.xp {w w' : World} {X : Nat → Prop} {t : Nat} {most : Int} {l l' : List En} (h0 : Buf w X t most l') (hs : w.heap.size ≤ w'.heap.size) (h : Buf w' X t most l) : Buf w' (Xp X w w') t most l := by
  obtain ⟨v, h0⟩ := h0
  refine h.wide (fun i hi => Or.inl hi) (fun i hi => ?_)
  rcases hi with hi | hi
  · exact Nat.lt_of_lt_of_le (h0.lt i hi) hs
  · exact hi.2
/-- Behind an append and the store of the new slice. -/
theorem BufV.push {w w1 w4 : World} {X : Nat → Prop} {t : Nat} {most : Int} {v : Value} {l : List En} {e : En} {g n cap : Nat} (h : BufV w X t most v l) (hB : Below w.heap.size w w1) (hgr : w1.grownBy w4 v.ownBlock) (ho : w4.ownsRow 0 112 4 (.slice (some ⟨g, 0, none⟩) n cap) (l ++ [e]).length (ecs (l ++ [e]))) (hat : v.ownBlock = some g ∨ g = w1.heap.size) (hg : g < w4.heap.size) (he : e.okR) :
    BufV (w4.setCell ⟨t, 1, none⟩ (.slice (some ⟨g, 0, none⟩) n cap)) (Xp X w w4) t most (.slice (some ⟨g, 0, none⟩) n cap) (l ++ [e]) ∧ Turn X w (w4.setCell ⟨t, 1, none⟩ (.slice (some ⟨g, 0, none⟩) n cap)) := by
  have htl := h.lt t h.xt
  have hrow : w4.heap[t]? = some (.cells #[.int .i64 most, v] 176 (0, 0)) := (hgr.block t (Nat.lt_of_lt_of_le htl hB.size) (fun c => (h.xg t c.symm).2 rfl)).trans (block_later hB h.row)
  have hgt : g ≠ t := by
    rcases hat with h1 | h1
    · exact (h.xg g h1).2
    · have := hB.size; omega
  have hgX : Xp X w w4 g := by
    rcases hat with h1 | h1
    · exact Or.inl (h.xg g h1).1
    · exact Or.inr ⟨by rw [h1]; exact hB.size, hg⟩
  rw [setCell_eq_setRow w4 t 1 _ _ _ _ hrow]
  refine ⟨⟨setRow_heap _ _ _ _ _ _ hrow, own_keep ho (fun g' hg' => ?_), fun g' hg' => ?_, Or.inl h.xt, fun i hi => ?_, fun x hx => ?_⟩, ?_⟩
  · cases hg'; exact setRow_other _ _ _ _ hgt
  · cases hg'; exact ⟨hgX, hgt⟩
  · show i < (w4.setRow t _).heap.size
    have hsz : (w4.setRow t #[Value.int .i64 most, .slice (some ⟨g, 0, none⟩) n cap]).heap.size = w4.heap.size := by simp
    have hsz' := hgr.size
    have hsz2 := hB.size
    rcases hi with hi | hi
    · have := h.lt i hi
      simp; omega
    · simp; omega
  · rcases List.mem_append.1 hx with h1 | h1
    · exact h.ok x h1
    · rw [List.mem_singleton.1 h1]; exact he
  · refine Turn.trans (X := X) (Y := fun i => i = t) ⟨hgr.os.trans hB.os, hgr.tape.trans hB.tape, hgr.output.trans hB.output, Nat.le_trans hB.size hgr.size, fun i hi hX => (hgr.block i (Nat.lt_of_lt_of_le hi hB.size) (fun c => hX (h.xg i c.symm).1)).trans (hB.block i hi)⟩ (turn_setRow _ _ _) (fun i _ hi => by rw [hi]; exact h.xt)

theorem Xp.mono {X : Nat → Prop} {w w1 w2 : World} (h : w1.heap.size ≤ w2.heap.size) : ∀ i, Xp X w w1 i → Xp X w w2 i := fun i hi => by
  rcases hi with hi | hi
  · exact Or.inl hi
  · exact Or.inr ⟨hi.1, Nat.lt_of_lt_of_le hi.2 h⟩
theorem Buf.xpm {X : Nat → Prop} {w w1 w2 : World} {t : Nat} {most : Int} {l : List En} (h : Buf w2 (Xp X w w1) t most l) (h0 : ∀ i, X i → i < w.heap.size) (h1 : w.heap.size ≤ w1.heap.size) (h2 : w1.heap.size ≤ w2.heap.size) : Buf w2 (Xp X w w2) t most l := by
  refine h.wide (Xp.mono h2) (fun i hi => ?_)
  rcases hi with hi | hi
  · have := h0 i hi; omega
  · exact hi.2
/-- As above, with a call ahead of the append. -/
theorem BufV.push2 {w w0 w1 w4 : World} {X : Nat → Prop} {t : Nat} {most : Int} {v : Value} {l : List En} {e : En} {g n cap : Nat} (h : BufV w X t most v l) (hA : Below w.heap.size w w0) (hB : Below w0.heap.size w0 w1) (hgr : w1.grownBy w4 v.ownBlock) (ho : w4.ownsRow 0 112 4 (.slice (some ⟨g, 0, none⟩) n cap) (l ++ [e]).length (ecs (l ++ [e]))) (hat : v.ownBlock = some g ∨ g = w0.heap.size + 1) (hsz : w1.heap.size = w0.heap.size + 1) (hg : g < w4.heap.size) (he : e.okR) :
    BufV (w4.setCell ⟨t, 1, none⟩ (.slice (some ⟨g, 0, none⟩) n cap)) (Xp X w w4) t most (.slice (some ⟨g, 0, none⟩) n cap) (l ++ [e]) ∧ Turn X w (w4.setCell ⟨t, 1, none⟩ (.slice (some ⟨g, 0, none⟩) n cap)) ∧ (w4.setCell ⟨t, 1, none⟩ (.slice (some ⟨g, 0, none⟩) n cap)).heap.size = w4.heap.size :=
  have h1 := h.push (below_tr hA hB) hgr ho (hat.imp id (fun e => by rw [hsz]; exact e)) hg he
  ⟨h1.1, h1.2, by simp⟩

set_option maxHeartbeats 8000000 in
set_option maxRecDepth 100000 in
theorem fill_c {w : World} {X : Nat → Prop} {t : Nat} {most : Int} {l : List En} (e : En) (he : e.ok) (h : Buf w X t most l) (hn : l.length ≤ 999) (hF : Flds w) :
    Calls Tryz.prog 131 #[.pointer (some ⟨t, 0, none⟩), e.v] w fun r w' => r = .returned (.int .i64 (fillN e)) ∧ Buf w' (Xp X w w') t most (fillL l most e) ∧ Turn X w w' := by
  have hR := fun w1 h1 => rightE_any e he w1 h1
  have HF := Hid.mk hF
  obtain ⟨v, h⟩ := h
  obtain ⟨ad, cap, hv, hf, hr⟩ := h.form
  have HH := Hid.mk h
  have HRD := Hid.mk hr
  have hlI : (l.length : Int) ≤ 999 := by omega
  have hC := fun w1 h1 => contains_c l e ad cap w1 (by omega) h1
  have HN : Hid (fillN e = if rightE e = true then 0 else 10) := rfl
  have HL : Hid (fillL l most e = if rightE e = true then (if memB e l = true then l else if most < (l.length : Int) + 1 then (l ++ [e]).eraseIdx 0 else l ++ [e]) else l) := rfl
  have HEC : Hid (e.cs = e.cs) := rfl
  have HEOK : Hid (rightE e = true → e.okR) := fun h => ⟨he, h⟩
  have HLN := Hid.mk hn
  clear hF h hr hf
  generalize fillN e = FN at *
  generalize fillL l most e = FL at *
  cases hRe : rightE e
  · rw [hRe, if_neg (by decide)] at HN HL
    rw [hRe] at hR
    clear hRe hC hn
    obtain ⟨a0, a1, a2, a3⟩ := e
    simp only [En.v] at *
    go_enter Tryz.func131, Tryz.ntmps131
    go_wp2_with fail
    refine (hR _ (HF.out.alloc _)).mono ?_
    rintro e w1 ⟨rfl, hb⟩
    go_wp2
    go_ret
    have hB := below_tr (below_new w (.cells #[.int .i64 a0, .int .u64 a1, .int .i64 a2, .int .u64 a3] 112)) hb
    rw [HN.out, HL.out]
    exact ⟨rfl, Buf.xp ⟨v, HH.out⟩ hB.size ⟨v, HH.out.later hB⟩, turn_of_below _ hB⟩
  · rw [hRe, if_pos rfl] at HN HL
    rw [hRe] at hR
    have HEOR := Hid.mk (HEOK.out hRe)
    clear HEOK
    by_cases hmem : e ∈ l
    · rw [if_pos (memB_true hmem)] at HL
      rw [memB_true hmem] at hC
      clear hRe hmem hn
      obtain ⟨a0, a1, a2, a3⟩ := e
      simp only [En.v] at *
      subst hv
      go_enter Tryz.func131, Tryz.ntmps131
      go_wp2_with fail
      refine (hR _ (HF.out.alloc _)).mono ?_
      rintro e w1 ⟨rfl, hb⟩
      have HB := Hid.mk (below_tr (below_new w (.cells #[.int .i64 a0, .int .u64 a1, .int .i64 a2, .int .u64 a3] 112)) hb)
      have hK := block_later hb (heap_alloc_new w (.cells #[.int .i64 a0, .int .u64 a1, .int .i64 a2, .int .u64 a3] 112))
      obtain ⟨q0, q1, q2, q3⟩ := cells4 hK
      obtain ⟨c0, c1⟩ := row2c (block_later HB.out HH.out.row)
      clear hb hR hK
      go_wp2
      first | (go_region_with (go_at_call 149; refine (hC _ (HRD.out.later (below_tr HB.out (Below.refl _ _).drew))).mono ?_; rintro e w' ⟨rfl, hb2⟩)) | fail
      all_goals go_wp2
      all_goals go_ret
      all_goals
        have hB := below_tr (below_tr HB.out (Below.refl _ _).drew) hb2
        rw [HN.out, HL.out]
        exact ⟨rfl, Buf.xp ⟨_, HH.out⟩ hB.size ⟨_, HH.out.later hB⟩, turn_of_below _ hB⟩
    · rw [if_neg (by rw [memB_false hmem]; decide)] at HL
      rw [memB_false hmem] at hC
      clear hRe hmem hn
      have HE := Hid.mk (rfl : e = e)
      obtain ⟨f, hf⟩ : ∃ f : En, f = e := ⟨_, rfl⟩
      rw [← hf] at hR hC HEOR HL ⊢
      clear HE HEC he hf
      subst hv
      obtain ⟨a0, a1, a2, a3⟩ := f
      simp only [En.v] at *
      go_enter Tryz.func131, Tryz.ntmps131
      go_wp2_with fail
      refine (hR _ (HF.out.alloc _)).mono ?_
      rintro e w1 ⟨rfl, hb⟩
      have HB := Hid.mk (below_tr (below_new w (.cells #[.int .i64 a0, .int .u64 a1, .int .i64 a2, .int .u64 a3] 112)) hb)
      have hK := block_later hb (heap_alloc_new w (.cells #[.int .i64 a0, .int .u64 a1, .int .i64 a2, .int .u64 a3] 112))
      obtain ⟨q0, q1, q2, q3⟩ := cells4 hK
      obtain ⟨c0, c1⟩ := row2c (block_later HB.out HH.out.row)
      have HK := Hid.mk hK
      clear hb hR hK
      go_wp2
      first | (go_region_with (go_at_call 149; refine (hC _ (HRD.out.later (below_tr HB.out (Below.refl _ _).drew))).mono ?_; rintro e w' ⟨rfl, hb2⟩)) | fail
      all_goals
        have HB3 := Hid.mk (below_tr (below_tr HB.out (Below.refl _ _).drew) hb2)
        have K3 := Hid.mk (block_later (below_tr (Below.refl _ _).drew hb2) HK.out)
        clear q0 q1 q2 q3 c0 c1 hb2 HB HK hC
        have HV3 := Hid.mk (HH.out.later HB3.out)
        obtain ⟨q0, q1, q2, q3⟩ := cells4 K3.out
        obtain ⟨c0, c1⟩ := row2c HV3.out.row
        have HLT := Hid.mk (HV3.out.lt t HV3.out.xt)
        have c1a := fun ob => cell_later (below_new w' ob) c1
        clear K3
        go_wp2
        go_region_law
          ((refine step_appE etyT _ (by rfl) _ _ (by rfl) 0 (.slice ad l.length cap) l (by rfl) ((World.ownsRow.alloc HV3.out.own _).drew) [⟨a0, a1, a2, a3⟩] ⟨w'.heap.size, 0, none⟩ 1 (by rfl) (fun j u hu => World.news_of_block (cs := #[.int .i64 a0, .int .u64 a1, .int .i64 a2, .int .u64 a3]) (t := 112) (fr := (0, 0)) (heap_alloc_new w' _) j u hu) Nat.zero_lt_one (by have := HLN.out; show l.length + 1 ≤ 100000; omega) (Nat.zero_le _) (w'.heap.size + 1) (by simp) ?_
            intro g cap2 w4 hown4 hgrow hat hlt
            have k3 := (hgrow.cell_far ⟨t, 1, none⟩ (by have := HLT.out; show t < (w'.heap.push _).size; simp; omega) (fun c => (HV3.out.xg t c.symm).2 rfl)).trans (c1a _)
            have j3 := (hgrow.frozen_far ⟨t, 1, none⟩ (by have := HLT.out; show t < (w'.heap.push _).size; simp; omega) (fun c => (HV3.out.xg t c.symm).2 rfl)).trans (frozen_of_row _ _ _ _ _ (block_later (below_new w' _).drew HV3.out.row))))
        all_goals
          have HP := Hid.mk (HH.out.push2 HB3.out (below_new w' _).drew hgrow (show w4.ownsRow 0 112 4 (.slice (some ⟨g, 0, none⟩) (l.length + 1) cap2) _ _ from hown4) hat (by simp) hlt HEOR.out)
          have HX0 := Hid.mk HH.out.lt
          have HSZ := Hid.mk (Nat.le_trans HB3.out.size (Nat.le_trans (below_new w' (.cells #[.int .i64 a0, .int .u64 a1, .int .i64 a2, .int .u64 a3] 112)).size hgrow.size))
          clear hgrow hown4 hat hlt k3 j3 c1a HV3 HB3 HLT q0 q1 q2 q3 c0 c1 HH HRD HF
          generalize w4.setCell ⟨t, 1, none⟩ (.slice (some ⟨g, 0, none⟩) (l.length + 1) cap2) = w5 at *
          obtain ⟨c0, c1⟩ := row2c HP.out.1.row
          by_cases hmo : most < (l.length : Int) + 1
          · rw [if_pos hmo] at HL
            have hDr := fun W (hW : Buf W (Xp X w w4) t most (l ++ [⟨a0, a1, a2, a3⟩])) => drop_yes hW 0 (by simp) (by have := HLN.out; simp; omega)
            have HDR := Hid.mk hDr
            clear hDr
            go_wp2
            go_quiet (fail)
            go_wp2_with fail
            refine (HDR.out _ (Buf.later ⟨_, HP.out.1⟩ (below_dN (Below.refl _ _) _))).mono ?_
            rintro e w6 ⟨rfl, hBf, hTu⟩
            clear HDR c0 c1
            go_wp2
            go_ret
            rw [HN.out, HL.out]
            refine ⟨rfl, hBf.xpm HX0.out HSZ.out ?_, (turn_b HP.out.2.1 (below_dN (Below.refl _ _) _)).trans hTu (fun i hi hx => ?_)⟩
            · exact Nat.le_trans (Nat.le_of_eq HP.out.2.2.symm) hTu.size
            · rcases hx with hx | hx
              · exact hx
              · omega
          · rw [if_neg hmo] at HL
            go_wp2
            go_quiet (fail)
            go_wp2
            go_ret
            rw [HN.out, HL.out]
            exact ⟨rfl, (Buf.later ⟨_, HP.out.1⟩ (below_dN (Below.refl _ _) _)).xpm HX0.out HSZ.out (Nat.le_of_eq HP.out.2.2.symm), turn_b HP.out.2.1 (below_dN (Below.refl _ _) _)⟩

end Go.Proofs.YtndjhedoandinaaGreatDoor.TR

/- Buffers: the walks of the flushes. -/
namespace Go.Proofs.YtndjhedoandinaaGreatDoor.TR
open Go.RowKit

/-- A function that has a body is entered. -/
theorem enters_t {P : Program} {f : FuncId} {fn : Func} {c : Code} (hf : P.funcs[f]? = some fn) (hn : (fn.name == "runtime.NumGoroutine") = false) (hb : fn.body = some c) (args : Array Value) (w : World) : (callFunc f args).run P w = .ok (.enter f args) w := by
  have h1 : fn.name ≠ "runtime.NumGoroutine" := by simpa using hn
  simp [callFunc, hf, h1, hb, mark]
/-- Those that are not such. -/
def keepP (p : En → Bool) (l : List En) : List En := l.filter (fun e => !p e)
theorem keep_le (p : En → Bool) (l : List En) : (keepP p l).length ≤ l.length := List.length_filter_le _ _

set_option maxHeartbeats 8000000 in
set_option maxRecDepth 100000 in
theorem flush_c {w : World} {X : Nat → Prop} {t : Nat} {most : Int} {l : List En} (h : Buf w X t most l) (hl : l.length ≤ 1000) (q : Nat) (lb : Array Value) (eg : ∀ args w, (callFunc q args).run Tryz.prog w = .ok (.enter q args) w) (p : En → Bool)
    (hp : ∀ W e, e ∈ l → Turn X w W → Calls Tryz.prog q (#[e.v] ++ lb) W fun r w' => r = .returned (.bool (p e)) ∧ Below W.heap.size W w') :
    Calls Tryz.prog 100 #[.pointer (some ⟨t, 0, none⟩), .func (.func q) #[] lb] w fun r w' => r = .returned (.int .i64 ((l.length : Int) - ((keepP p l).length : Int))) ∧ Buf w' X t most (keepP p l) ∧ Turn X w w' := by
  obtain ⟨v, h⟩ := h
  obtain ⟨-, c1⟩ := row2c h.row
  have HH := Hid.mk h
  have HOK : Hid (∀ e ∈ keepP p l, e.okR) := fun e he => h.ok e (List.mem_filter.1 he).1
  have hlI : (l.length : Int) ≤ 1000 := by omega
  rcases h.own.2 with ⟨rfl, h0⟩ | ⟨g, cap, cur, rfl, hb, hg, h1, h2, h3, h4⟩
  · obtain rfl := List.length_eq_zero_iff.1 h0
    have hI := indexFunc_c q lb eg p [] none 0 w (by decide) (RdA.nil _ _) (fun W e he hb => hp W e he (turn_of_below _ hb))
    have hD : Calls Tryz.prog 136 #[.slice none 0 0, .func (.func q) #[] lb] w fun r w' => r = .returned (.slice none 0 0) ∧ Below w.heap.size w w' := by
      clear c1 h hp
      go_enter Tryz.func136, Tryz.ntmps136
      go_wp2_with fail
      refine hI.mono ?_
      rintro e w1 ⟨⟨rfl, -⟩ | ⟨k, hk, -⟩, hb⟩
      · clear hI
        go_wp2
        go_ret
        exact ⟨rfl, hb⟩
      · exact absurd hk (by simp)
    clear h hp hI
    go_enter Tryz.func100, Tryz.ntmps100
    go_wp2_with fail
    refine hD.mono ?_
    rintro e w1 ⟨rfl, hb⟩
    have HB := Hid.mk hb
    have HR1 := Hid.mk (block_later hb HH.out.row)
    clear hD hb c1
    go_wp2_with (first
      | (refine wpList_store_segTo rfl 103 _ _ rfl rfl t 1 _ #[.slice none 0 0] rfl rfl rfl 176 _ HR1.out (show 1 + 1 ≤ 2 by decide) info_sl (by simp [Value.oneCell']) #[.int .i64 most, .slice none 0 0] rfl ?_
         intro w8 hk8 ht8
         obtain ⟨c0, c1⟩ := row2c hk8)
      | fail)
    go_ret
    have hfin := HH.out.turned (v' := .slice none 0 0) (l' := []) (turn_of_below _ HB.out) (World.ownsRow_nil _ _ _ _) rfl hk8 ht8 (fun e he => by cases he)
    exact ⟨rfl, ⟨_, hfin.1⟩, hfin.2⟩
  · have hcur : cur = rowE l (cur.toList.drop (l.length * 4)) := by
      unfold rowE
      rw [← h4, List.take_append_drop]
    rw [hcur] at hg h3
    have hgX := (h.xg g rfl)
    have hD := deleteFunc_row q lb eg p l g cap 0 _ w hl h1 h2 hb hg h3 (fun W e he ht => hp W e he ⟨ht.os, ht.tape, ht.output, ht.size, fun i hi hX => ht.block i hi (fun h5 => hX (by rw [h5]; exact hgX.1))⟩)
    have hle := keep_le p l
    have hleI : ((keepP p l).length : Int) ≤ (l.length : Int) := by omega
    have hkI : (0 : Int) ≤ ((keepP p l).length : Int) := by omega
    have hD2 : Calls Tryz.prog 136 #[.slice (some ⟨g, 0, none⟩) l.length cap, .func (.func q) #[] lb] w fun r w' => r = .returned (.slice (some ⟨g, 0, none⟩) (keepP p l).length cap) ∧ w'.ownsRow 0 112 4 (.slice (some ⟨g, 0, none⟩) (keepP p l).length cap) (keepP p l).length (ecs (keepP p l)) ∧ Turn (fun i => i = g) w w' := hD
    have HLE := Hid.mk hle
    clear h hp hg h1 h2 h3 h4 hcur hb hl hD hle
    have hne := hgX.2
    generalize keepP p l = kl at *
    go_enter Tryz.func100, Tryz.ntmps100
    go_wp2_with fail
    refine hD2.mono ?_
    rintro e w1 ⟨rfl, ho, ht⟩
    have HR1 := Hid.mk (block_turn ht HH.out.row (fun h => hne h.symm))
    have HO := Hid.mk ho
    have HT := Hid.mk ht
    clear hD2 ho ht c1
    go_wp2_with (first
      | (refine wpList_store_segTo rfl 103 _ _ rfl rfl t 1 _ #[.slice (some ⟨g, 0, none⟩) kl.length cap] rfl rfl rfl 176 _ HR1.out (show 1 + 1 ≤ 2 by decide) info_sl (by simp [Value.oneCell']) #[.int .i64 most, .slice (some ⟨g, 0, none⟩) kl.length cap] rfl ?_
         intro w8 hk8 ht8
         obtain ⟨c0, c1⟩ := row2c hk8)
      | fail)
    go_ret
    have hfin := HH.out.turned (v' := .slice (some ⟨g, 0, none⟩) kl.length cap) (Turn.mk HT.out.os HT.out.tape HT.out.output HT.out.size fun i hi hX => HT.out.block i hi fun h3 => hX (by rw [h3]; rfl)) HO.out rfl hk8 ht8 HOK.out
    exact ⟨rfl, ⟨_, hfin.1⟩, hfin.2⟩

/-! ### the three closures -/
set_option maxHeartbeats 2000000 in
theorem clo_va (e : En) (hl1 : 1 ≤ e.lv) (hl3 : e.lv ≤ 3) (i : Int) (x : Nat) (hx : x < 18446744073709551616) (B1 B2 : Nat) (W : World) (h1 : W.cell? ⟨B1, 0, none⟩ = some (.int .i64 i)) (h2 : W.cell? ⟨B2, 0, none⟩ = some (.int .u64 x)) :
    Calls Tryz.prog 101 #[e.v, .pointer (some ⟨B1, 0, none⟩), .pointer (some ⟨B2, 0, none⟩)] W fun r w' => r = .returned (.bool (mB e i x)) ∧ Below W.heap.size W w' := by
  have hM := fun w1 => matches_any e hl1 hl3 i x hx w1
  have g1 := fun ob => cell_alloc (o := ob) h1
  have g2 := fun ob => cell_alloc (o := ob) h2
  generalize mB e i x = M at *
  obtain ⟨a0, a1, a2, a3⟩ := e
  simp only [En.v] at *
  clear h1 h2 hx hl1 hl3
  go_enter Tryz.func101, Tryz.ntmps101
  go_wp2_with fail
  refine (hM _).mono ?_
  rintro e w1 ⟨rfl, hb⟩
  clear hM g1 g2
  go_wp2
  go_ret
  exact ⟨rfl, below_tr (below_new _ _) hb⟩
set_option maxHeartbeats 2000000 in
theorem clo_asid (e : En) (i : Int) (B1 : Nat) (W : World) (h1 : W.cell? ⟨B1, 0, none⟩ = some (.int .i64 i)) :
    Calls Tryz.prog 106 #[e.v, .pointer (some ⟨B1, 0, none⟩)] W fun r w' => r = .returned (.bool (decide (e.aid = i))) ∧ Below W.heap.size W w' := by
  have g1 := fun ob => cell_alloc (o := ob) h1
  have HE : Hid (decide (e.aid = i) = (e.aid == i)) := by show _ = _; rw [Bool.eq_iff_iff, decide_eq_true_eq, beq_iff_eq]
  generalize decide (e.aid = i) = D at *
  obtain ⟨a0, a1, a2, a3⟩ := e
  simp only [En.v] at *
  clear h1
  go_enter Tryz.func106, Tryz.ntmps106
  go_wp2
  go_ret
  exact ⟨by rw [HE.out]; rfl, below_new _ _⟩
set_option maxHeartbeats 2000000 in
theorem clo_all (e : En) (W : World) :
    Calls Tryz.prog 104 #[e.v] W fun r w' => r = .returned (.bool true) ∧ Below W.heap.size W w' := by
  obtain ⟨a0, a1, a2, a3⟩ := e
  simp only [En.v] at *
  go_enter Tryz.func104, Tryz.ntmps104
  go_wp2
  go_ret
  exact ⟨rfl, below_new _ _⟩

theorem turn_cell {w W : World} {X : Nat → Prop} {B i : Nat} {v : Value} (ht : Turn X w W) (hX : ¬ X B) (h : w.cell? ⟨B, i, none⟩ = some v) : W.cell? ⟨B, i, none⟩ = some v :=
  (World.cell?_of_block (a := ⟨B, i, none⟩) (ht.block B (World.block_lt_of_cell? w ⟨B, i, none⟩ h) hX)).trans h
theorem turn_pre {w w1 w2 : World} {X : Nat → Prop} (hb : Below w.heap.size w w1) (h : Turn X w1 w2) : Turn X w w2 := (turn_of_below X hb).trans h (fun _ _ h => h)

theorem flushVa_c {w : World} {X : Nat → Prop} {t : Nat} {most : Int} {l : List En} (h : Buf w X t most l) (hl : l.length ≤ 1000) (i : Int) (x : Nat) (hx : x < 18446744073709551616) :
    Calls Tryz.prog 56 #[.pointer (some ⟨t, 0, none⟩), .int .i64 i, .int .u64 x] w fun r w' => r = .returned (.int .i64 ((l.length : Int) - ((keepP (fun e => mB e i x) l).length : Int))) ∧ Buf w' X t most (keepP (fun e => mB e i x) l) ∧ Turn X w w' := by
  have hB := below_tr (below_new w (.cells #[.int .i64 i] 3)) (below_new (w.alloc (.cells #[.int .i64 i] 3)) (.cells #[.int .u64 x] 26))
  have hlt : ∀ i, X i → i < w.heap.size := by obtain ⟨v, h⟩ := h; exact h.lt
  have hok : ∀ e ∈ l, e.okR := by obtain ⟨v, h⟩ := h; exact h.ok
  have eg : ∀ args w, (callFunc 101 args).run Tryz.prog w = .ok (.enter 101 args) w := enters_t Tryz.func101 (by kernel_rfl) rfl
  have hC := flush_c (h.later hB) hl 101 #[.pointer (some ⟨w.heap.size, 0, none⟩), .pointer (some ⟨w.heap.size + 1, 0, none⟩)] eg (fun e => mB e i x) (fun W e he ht => clo_va e (right_lv (hok e he).2).1 (right_lv (hok e he).2).2 i x hx w.heap.size (w.heap.size + 1) W
    (turn_cell ht (fun hX => by have := hlt _ hX; omega) (cell_of_row _ _ _ _ _ _ (heap_alloc2_old w _ _)))
    (turn_cell ht (fun hX => by have := hlt _ hX; omega) (cell_of_row _ _ _ _ _ _ (heap_alloc2_new w _ _))))
  generalize keepP (fun e => mB e i x) l = kl at *
  have HB := Hid.mk hB
  clear hB h hlt eg hx hok
  go_enter Tryz.func56, Tryz.ntmps56
  go_wp2_with fail
  refine hC.mono ?_
  rintro e w1 ⟨rfl, hb, ht⟩
  clear hC
  go_wp2
  go_ret
  exact ⟨rfl, hb, turn_pre HB.out ht⟩
theorem flushAsid_c {w : World} {X : Nat → Prop} {t : Nat} {most : Int} {l : List En} (h : Buf w X t most l) (hl : l.length ≤ 1000) (i : Int) :
    Calls Tryz.prog 61 #[.pointer (some ⟨t, 0, none⟩), .int .i64 i] w fun r w' => r = .returned (.int .i64 ((l.length : Int) - ((keepP (fun e => decide (e.aid = i)) l).length : Int))) ∧ Buf w' X t most (keepP (fun e => decide (e.aid = i)) l) ∧ Turn X w w' := by
  have hB := below_new w (.cells #[.int .i64 i] 3)
  have hlt : ∀ i, X i → i < w.heap.size := by obtain ⟨v, h⟩ := h; exact h.lt
  have eg : ∀ args w, (callFunc 106 args).run Tryz.prog w = .ok (.enter 106 args) w := enters_t Tryz.func106 (by kernel_rfl) rfl
  have hC := flush_c (h.later hB) hl 106 #[.pointer (some ⟨w.heap.size, 0, none⟩)] eg (fun e => decide (e.aid = i)) (fun W e _ ht => clo_asid e i w.heap.size W
    (turn_cell ht (fun hX => by have := hlt _ hX; omega) (cell_of_row _ _ _ _ _ _ (heap_alloc_new w _))))
  generalize keepP (fun e => decide (e.aid = i)) l = kl at *
  have HB := Hid.mk hB
  clear hB h hlt eg
  go_enter Tryz.func61, Tryz.ntmps61
  go_wp2_with fail
  refine hC.mono ?_
  rintro e w1 ⟨rfl, hb, ht⟩
  clear hC
  go_wp2
  go_ret
  exact ⟨rfl, hb, turn_pre HB.out ht⟩
theorem keep_all (l : List En) : keepP (fun _ => true) l = [] := by unfold keepP; simp
theorem flushAll_c {w : World} {X : Nat → Prop} {t : Nat} {most : Int} {l : List En} (h : Buf w X t most l) (hl : l.length ≤ 1000) :
    Calls Tryz.prog 59 #[.pointer (some ⟨t, 0, none⟩)] w fun r w' => r = .returned (.int .i64 (l.length : Int)) ∧ Buf w' X t most [] ∧ Turn X w w' := by
  have eg : ∀ args w, (callFunc 104 args).run Tryz.prog w = .ok (.enter 104 args) w := enters_t Tryz.func104 (by kernel_rfl) rfl
  have hC := flush_c h hl 104 #[] eg (fun _ => true) (fun W e _ _ => clo_all e W)
  rw [keep_all] at hC
  have hz : (l.length : Int) - (([] : List En).length : Int) = (l.length : Int) := by simp
  rw [hz] at hC
  clear h eg hz
  go_enter Tryz.func59, Tryz.ntmps59
  go_wp2_with fail
  refine hC.mono ?_
  rintro e w1 ⟨rfl, hb, ht⟩
  clear hC
  go_wp2
  go_ret
  exact ⟨rfl, hb, ht⟩

end Go.Proofs.YtndjhedoandinaaGreatDoor.TR

/- Trails: the walk of Walked. -/
namespace Go.Proofs.YtndjhedoandinaaGreatDoor.TR
open Go.RowKit Go.Maps

/-- A word is a Table at a level. -/
def isT (l : Int) (x : Nat) : Bool := isLv l && (goodD l x && decide (rdK l x = 1))
theorem isT_lv {l : Int} {x : Nat} (h : isT l x = true) : 0 ≤ l ∧ l ≤ 2 := by
  unfold isT at h
  rw [Bool.and_eq_true, Bool.and_eq_true, decide_eq_true_eq] at h
  have h1 := isLv_of h.1
  have h2 := h.2.2
  refine ⟨h1.1, ?_⟩
  unfold rdK at h2
  split at h2
  · omega
  · split at h2
    · rename_i h3
      rw [Bool.and_eq_true, decide_eq_true_eq] at h3
      omega
    · split at h2 <;> omega
theorem dec_yes {l : Int} {x : Nat} (h : isT l x = true) (hx : x < 18446744073709551616) (w : World) (hF : Go.Proofs.YtndjhedoandinaaGreatDoor.Flds w) :
    Calls Tryz.prog 90 #[.int .i64 l, .int .u64 x] w fun e w' => ∃ u r y s a, e = .returned (.tuple #[dv 1 (rdO x) u r y s a, .int .i64 0]) ∧ Below w.heap.size w w' := by
  unfold isT at h
  rw [Bool.and_eq_true, Bool.and_eq_true, decide_eq_true_eq] at h
  refine (decode_good l x h.1 hx h.2.1 w hF).mono ?_
  rintro e w' ⟨rfl, hb⟩
  unfold rdV
  rw [h.2.2]
  exact ⟨_, _, _, _, _, rfl, hb⟩
theorem dec_no {l : Int} {x : Nat} (h : isT l x = false) (hx : x < 18446744073709551616) (w : World) (hF : Go.Proofs.YtndjhedoandinaaGreatDoor.Flds w) :
    Calls Tryz.prog 90 #[.int .i64 l, .int .u64 x] w fun e w' => ∃ k o u r y s a z, e = .returned (.tuple #[dv k o u r y s a, .int .i64 z]) ∧ (z ≠ 0 ∨ (z = 0 ∧ k ≠ 1)) ∧ Below w.heap.size w w' := by
  cases hl : isLv l
  · refine (decode_lv l x hl w).mono ?_
    rintro e w' ⟨rfl, hb⟩
    exact ⟨_, _, _, _, _, _, _, _, rfl, Or.inl (by decide), hb⟩
  · cases hg : goodD l x
    · refine (decode_fail l x hl hx hg w hF).mono ?_
      rintro e w' ⟨rfl, hb⟩
      exact ⟨_, _, _, _, _, _, _, _, rfl, Or.inl (by decide), hb⟩
    · have hk : rdK l x ≠ 1 := by
        intro hk
        unfold isT at h
        rw [hl, hg, decide_eq_true hk] at h
        cases h
      refine (decode_good l x hl hx hg w hF).mono ?_
      rintro e w' ⟨rfl, hb⟩
      exact ⟨_, _, _, _, _, _, _, _, rfl, Or.inr ⟨rfl, hk⟩, hb⟩

/-- What i tables of a walk leave behind. -/
def wdE (i0 : Int) (x : Nat) (lv : Int) (V : Nat → Nat) (i : Nat) : En := ⟨i0, baseV x (lv + i), lv + i + 1, rdO (V i)⟩
def wdL (most i0 : Int) (x : Nat) (lv : Int) (V : Nat → Nat) (l : List En) : Nat → List En
  | 0 => l
  | i + 1 => if lowB x = true then fillL (wdL most i0 x lv V l i) most (wdE i0 x lv V i) else wdL most i0 x lv V l i
theorem fillL_len (l : List En) (m : Int) (e : En) : (fillL l m e).length ≤ l.length + 1 := by
  unfold fillL
  split
  · split
    · omega
    · split
      · have := List.length_eraseIdx_le (l ++ [e]) 0
        simp at this ⊢
      · simp
  · omega
theorem wdL_len (most i0 : Int) (x : Nat) (lv : Int) (V : Nat → Nat) (l : List En) : ∀ i, (wdL most i0 x lv V l i).length ≤ l.length + i
  | 0 => Nat.le_refl _
  | i + 1 => by
    have h := wdL_len most i0 x lv V l i
    unfold wdL
    split
    · have := fillL_len (wdL most i0 x lv V l i) most (wdE i0 x lv V i)
      omega
    · omega
theorem wdE_ok (i0 : Int) (x : Nat) (lv : Int) (V : Nat → Nat) (i : Nat) : (wdE i0 x lv V i).ok := by
  refine ⟨?_, rdO_lt _⟩
  have := baseV_lt x (lv + i)
  show baseV x (lv + i) < _
  omega

theorem Buf.xpp {X : Nat → Prop} {w wr w1 w2 : World} {t : Nat} {most : Int} {l : List En} (h : Buf w2 (Xp (Xp X w wr) w1 w2) t most l) (h0 : w.heap.size ≤ wr.heap.size) (h1 : wr.heap.size ≤ w1.heap.size) (h2 : w1.heap.size ≤ w2.heap.size) (hX : ∀ i, X i → i < w.heap.size) : Buf w2 (Xp X w w2) t most l := by
  refine h.wide (fun i hi => ?_) (fun i hi => ?_)
  · rcases hi with (hi | hi) | hi
    · exact Or.inl hi
    · exact Or.inr ⟨hi.1, by omega⟩
    · exact Or.inr ⟨by omega, hi.2⟩
  · rcases hi with hi | hi
    · have := hX i hi; omega
    · exact hi.2
theorem Turn.xpp {X : Nat → Prop} {w wr w1 w2 : World} (ht : Turn X w wr) (hb : Below wr.heap.size wr w1) (h2 : Turn (Xp X w wr) w1 w2) : Turn X w w2 :=
  (turn_b ht hb).trans h2 (fun i hi hx => by
    rcases hx with hx | hx
    · exact hx
    · omega)
theorem buf_lt {w : World} {X : Nat → Prop} {t : Nat} {most : Int} {l : List En} (h : Buf w X t most l) : ∀ i, X i → i < w.heap.size := by
  obtain ⟨v, h⟩ := h; exact h.lt

/-- One operation of a region that draws, taken first; where its value goes is said. -/
theorem take_at {P : Program} {ops : Array Oper} {Q : Exit → Act → World → Prop} {md : Region.Mode} {S : World → Prop} {i : Nat} {oi : Oper} {v : Value} {fuel : Nat} {listed : Array Bool} {a : Act} {w : World} (t : Tmp) (hi : ops[i]? = some oi) (hd : oi.dst = some t)
    (hs : Region.noSelect ops = true) (hf : Region.free md ops listed i = true) (hr : (Region.ready md ops listed).contains i = true)
    (hQ : ∀ c a w, Q (.panic c) (a.put oi.dst v) w → Q (.panic c) a w) (hy : YieldsIf P ops S oi v a) (hS : S w)
    (h : wpAnyH P md ops Q S fuel (listed.setIfInBounds i true) (a.put (some t) v) w) : wpAnyH P md ops Q S (fuel + 1) listed a w :=
  wpAnyH_take hi hs hf hr hQ hy hS (by rw [hd]; exact h)

set_option maxHeartbeats 1000000 in
set_option maxRecDepth 100000 in
theorem walked_c {w : World} {X : Nat → Prop} {t : Nat} {most : Int} {l : List En} (h : Buf w X t most l) (hl : l.length ≤ 900) (i0 : Int) (x : Nat) (hx : x < 18446744073709551616) (lv : Int) (hv1 : -9223372036854775808 ≤ lv) (hv2 : lv ≤ 9223372036854775807)
    (ad : Option Addr) (n cap : Nat) (A V : Nat → Nat) (hn : n ≤ 50) (hs : StepsAt w ad n A V) (hd : notIn X ad) (hF : ∀ W, Turn X w W → Flds W) :
    Calls Tryz.prog 93 #[.pointer (some ⟨t, 0, none⟩), .int .i64 i0, .int .u64 x, .int .i64 lv, .slice ad n cap] w fun r w' => ∃ k : Nat, k ≤ n ∧ (∀ j : Nat, j < k → isT (lv + j) (V j) = true) ∧ (k < n → isT (lv + k) (V k) = false) ∧ r = .returned (.int .i64 (k : Nat)) ∧ Buf w' (Xp X w w') t most (wdL most i0 x lv V l k) ∧ Turn X w w' := by
  have HS := Hid.mk hs
  have HD := Hid.mk hd
  have HF := Hid.mk hF
  have HX := Hid.mk hx
  have HXL := Hid.mk (buf_lt h)
  have HV := Hid.mk (And.intro hv1 hv2)
  have HB0 : Hid (Buf w (Xp X w w) t most (wdL most i0 x lv V l 0)) := Buf.xp h (Nat.le_refl _) h
  have HLL : Hid (∀ i, i ≤ 50 → (wdL most i0 x lv V l i).length ≤ 950) := fun i hi => by have := wdL_len most i0 x lv V l i; omega
  have HYES : Hid (lowB x = true → ∀ i, wdL most i0 x lv V l (i + 1) = fillL (wdL most i0 x lv V l i) most ⟨i0, baseV x (lv + i), lv + i + 1, rdO (V i)⟩) := fun h1 i => by show (if _ then _ else _) = _; rw [if_pos h1]; rfl
  have HNO : Hid (lowB x = false → ∀ i, wdL most i0 x lv V l (i + 1) = wdL most i0 x lv V l i) := fun h1 i => by show (if _ then _ else _) = _; rw [h1]; rfl
  have HEOK : Hid (∀ i : Nat, (⟨i0, baseV x (lv + i), lv + i + 1, rdO (V i)⟩ : En).ok) := fun i => wdE_ok i0 x lv V i
  have hnI : (n : Int) ≤ 50 := by omega
  clear h hs hd hF hx hv1 hv2 hl
  generalize wdL most i0 x lv V l = WD at *
  go_enter Tryz.func93, Tryz.ntmps93
  go_wp2
  go_loopw [11, 12, 13, 14, 17] (fun _ _ _ _ s17 wr => ∃ i : Nat, i ≤ n ∧ s17 = .int .i64 (i : Nat) ∧ (∀ j : Nat, j < i → isT (lv + j) (V j) = true) ∧ Buf wr (Xp X w wr) t most (WD i) ∧ Turn X w wr) (fun _ _ _ _ s17 _ => n - (RowKit.intOf s17).toNat)
  case atStart => exact ⟨0, by omega, rfl, fun j hj => absurd hj (Nat.not_lt_zero _), HB0.out, Turn.refl _ _⟩
  case round =>
    obtain ⟨i, hi, rfl, hT, hB, hTu⟩ := hrel
    have HT := Hid.mk hT
    have HB := Hid.mk hB
    have HTU := Hid.mk hTu
    clear HB0
    by_cases hlt : i < n
    · have hlt2 : (i : Int) < n := by omega
      have HLT := Hid.mk hlt
      have hib : (i : Int) < 50 := by omega
      obtain ⟨g, o, rfl, hg, q1, q2⟩ := HS.out.cells i hlt
      have d1 := turn_cell hTu (HD.out _ rfl) q1
      have d2 := turn_cell hTu (HD.out _ rfl) q2
      have hbnd : -9223372036854775808 ≤ lv + (i : Int) ∧ lv + (i : Int) ≤ 9223372036854775807 := by
        have := HV.out
        cases i with
        | zero => simpa using this
        | succ j =>
          have := isT_lv (hT j (by omega))
          omega
      obtain ⟨hb1, hb2⟩ := hbnd
      have HVI := Hid.mk (HS.out.vl i)
      have hFr := HF.out wr hTu
      have hFb := fun ob => hFr.alloc ob
      have HFB := Hid.mk hFb
      have HSZ := Hid.mk hTu.size
      clear q1 q2 hg hT hB hTu hFr hFb hlt hi
      cases hTi : isT (lv + i) (V i)
      · have hdec := fun W hW => dec_no hTi HVI.out W hW
        have HDE := Hid.mk hdec
        have HTI := Hid.mk hTi
        clear hdec hTi
        go_wp2_with fail
        refine (HDE.out _ (HFB.out _).d).mono ?_
        rintro e w1 ⟨k, o, u, r, y, s, a, z, rfl, hz, hb⟩
        have HBE := Hid.mk (below_tr (below_new _ _) hb)
        clear hb HDE HFB
        rcases hz with hz | ⟨rfl, hz⟩
        · go_wp2
          go_ret
          exact ⟨i, by have := HLT.out; omega, HT.out, fun _ => HTI.out, rfl, Buf.xpm (HB.out.later (below_tr HBE.out (below_new _ _))) HXL.out HSZ.out (below_tr HBE.out (below_new _ _)).size, turn_b HTU.out (below_tr HBE.out (below_new _ _))⟩
        · go_wp2
          go_ret
          exact ⟨i, by have := HLT.out; omega, HT.out, fun _ => HTI.out, rfl, Buf.xpm (HB.out.later (below_tr HBE.out (below_new _ _))) HXL.out HSZ.out (below_tr HBE.out (below_new _ _)).size, turn_b HTU.out (below_tr HBE.out (below_new _ _))⟩
      · have hdec := fun W hW => dec_yes hTi HVI.out W hW
        have HDE := Hid.mk hdec
        have hl2 := isT_lv hTi
        have HTI : Hid (∀ j : Nat, j < i + 1 → isT (lv + j) (V j) = true) := fun j hj => by
          by_cases hji : j = i
          · subst hji; exact hTi
          · exact HT.out j (by omega)
        obtain ⟨hl0, hl2⟩ := hl2
        clear hdec hTi hb1 hb2
        go_wp2_with fail
        refine (HDE.out _ (HFB.out _).d).mono ?_
        rintro e w1 ⟨u, r, y, s, a, rfl, hb⟩
        have HBE := Hid.mk (below_tr (below_new _ _) hb)
        have hsz1 := HBE.out.size
        clear hb HDE HFB
        cases hlow : lowB x
        · have HN2 := Hid.mk (HNO.out hlow i)
          go_wp2_with (first
            | (go_at_call 128; refine (low_any x _).mono ?_; rintro e w' ⟨rfl, rfl⟩; rw [hlow]))
          go_roundw
          case rel =>
            refine ⟨i + 1, by have := HLT.out; omega, by go_num, HTI.out, ?_, turn_b HTU.out (below_tr HBE.out (below_new _ _))⟩
            rw [HN2.out]
            exact Buf.xpm (HB.out.later (below_tr HBE.out (below_new _ _))) HXL.out HSZ.out (below_tr HBE.out (below_new _ _)).size
          case measure => have := HLT.out; simp [RowKit.intOf]; omega
        · have HY2 := Hid.mk (HYES.out hlow i)
          have HOKi := Hid.mk (HEOK.out i)
          have hBa := fun W => base_any x (lv + i) HX.out W
          have HLLi := Hid.mk (HLL.out i (by omega))
          generalize baseV x (lv + i) = bv at *
          generalize rdO (V i) = ov at *
          go_wp2_with fail
          refine (low_any x _).mono ?_
          rintro e w' ⟨rfl, rfl⟩
          rw [hlow]
          have hK := heap_alloc_new w1 (.cells #[.int .i64 1, .int .u64 (ov : Nat), .bool u, .bool r, .bool y, .bool s, .int .i64 a] 60)
          have HK := Hid.mk hK
          have HBW := Hid.mk (below_tr HBE.out (below_new w1 (.cells #[.int .i64 1, .int .u64 (ov : Nat), .bool u, .bool r, .bool y, .bool s, .int .i64 a] 60)))
          have HNX : Hid (¬ Xp X w wr w1.heap.size) := fun hx => by
            rcases hx with hx | hx
            · have := HXL.out _ hx; have := HSZ.out; omega
            · omega
          have hw1 : IntKind.i64.wrap (lv + (i : Int)) = lv + (i : Int) := by rw [IntKind.wrap_i64]; omega
          have hw2 : IntKind.i64.wrap (lv + (i : Int) + 1) = lv + (i : Int) + 1 := by rw [IntKind.wrap_i64]; omega
          go_upto_region 8 with fail
          generalize w1.alloc (.cells #[.int .i64 1, .int .u64 (ov : Nat), .bool u, .bool r, .bool y, .bool s, .int .i64 a] 60) = wd at *
          generalize w1.heap.size = D at *
          have k1 : wd.cell? ⟨D, 1, none⟩ = some (.int .u64 (ov : Nat)) := (cell_of_row _ _ _ _ _ _ hK).trans rfl
          clear hK
          have HBFd := Hid.mk (HB.out.later (below_tr HBW.out (Below.refl _ _).drew))
          have HFd := Hid.mk (HF.out _ (turn_b HTU.out (below_tr HBW.out (Below.refl _ _).drew)))
          refine wp_region_noPanic ?_
          refine wp_region_held_drew (S := (fun w' => w'.cell? ⟨D, 1, none⟩ = some (.int .u64 (ov : Nat)))) (by kernel_rfl) ?_ (fun hHeld => ?_)
          · exact cell_later (Below.refl _ _).drew k1
          refine take_at (i := 0) (v := ?_) 41 rfl rfl (by kernel_rfl) (by kernel_rfl) (by kernel_rfl) (fun _ _ _ h => h) (Or.inl ⟨by rfl, ?_⟩) (by assumption) ?_
          rotate_left
          · (intro w' hSw; (try dsimp only at hSw); go_simp; all_goals with_reducible rfl)
          try simp only [Act.put, List.setIfInBounds_toArray, List.set_cons_zero, List.set_cons_succ]
          refine take_at (i := 1) (v := ?_) 42 rfl rfl (by kernel_rfl) (by kernel_rfl) (by kernel_rfl) (fun _ _ _ h => h) (Or.inl ⟨by rfl, ?_⟩) (by assumption) ?_
          rotate_left
          · (intro w' hSw; (try dsimp only at hSw); go_simp; all_goals with_reducible rfl)
          try simp only [Act.put, List.setIfInBounds_toArray, List.set_cons_zero, List.set_cons_succ]
          refine take_at (i := 2) (v := ?_) 43 rfl rfl (by kernel_rfl) (by kernel_rfl) (by kernel_rfl) (fun _ _ _ h => h) (Or.inl ⟨by rfl, ?_⟩) (by assumption) ?_
          rotate_left
          · (intro w' hSw; (try dsimp only at hSw); go_simp; all_goals with_reducible rfl)
          try simp only [Act.put, List.setIfInBounds_toArray, List.set_cons_zero, List.set_cons_succ]
          refine take_at (i := 3) (v := ?_) 44 rfl rfl (by kernel_rfl) (by kernel_rfl) (by kernel_rfl) (fun _ _ _ h => h) (Or.inl ⟨by rfl, ?_⟩) (by assumption) ?_
          rotate_left
          · (intro w' hSw; (try dsimp only at hSw); go_simp; all_goals with_reducible rfl)
          try simp only [Act.put, List.setIfInBounds_toArray, List.set_cons_zero, List.set_cons_succ]
          refine take_at (i := 4) (v := ?_) 45 rfl rfl (by kernel_rfl) (by kernel_rfl) (by kernel_rfl) (fun _ _ _ h => h) (Or.inl ⟨by rfl, ?_⟩) (by assumption) ?_
          rotate_left
          · (intro w' hSw; (try dsimp only at hSw); go_simp; all_goals with_reducible rfl)
          try simp only [Act.put, List.setIfInBounds_toArray, List.set_cons_zero, List.set_cons_succ]
          refine take_at (i := 5) (v := ?_) 46 rfl rfl (by kernel_rfl) (by kernel_rfl) (by kernel_rfl) (fun _ _ _ h => h) (Or.inl ⟨by rfl, ?_⟩) (by assumption) ?_
          rotate_left
          · (intro w' hSw; (try dsimp only at hSw); go_simp; all_goals with_reducible rfl)
          try simp only [Act.put, List.setIfInBounds_toArray, List.set_cons_zero, List.set_cons_succ]
          refine take_at (i := 7) (v := ?_) 48 rfl rfl (by kernel_rfl) (by kernel_rfl) (by kernel_rfl) (fun _ _ _ h => h) (Or.inl ⟨by rfl, ?_⟩) (by assumption) ?_
          rotate_left
          · (intro w' hSw; (try dsimp only at hSw); go_simp; all_goals with_reducible rfl)
          try simp only [Act.put, List.setIfInBounds_toArray, List.set_cons_zero, List.set_cons_succ]
          refine take_at (i := 8) (v := ?_) 49 rfl rfl (by kernel_rfl) (by kernel_rfl) (by kernel_rfl) (fun _ _ _ h => h) (Or.inl ⟨by rfl, ?_⟩) (by assumption) ?_
          rotate_left
          · (intro w' hSw; (try dsimp only at hSw); go_simp; all_goals with_reducible rfl)
          try simp only [Act.put, List.setIfInBounds_toArray, List.set_cons_zero, List.set_cons_succ]
          refine take_at (i := 9) (v := ?_) 50 rfl rfl (by kernel_rfl) (by kernel_rfl) (by kernel_rfl) (fun _ _ _ h => h) (Or.inl ⟨by rfl, ?_⟩) (by assumption) ?_
          rotate_left
          · (intro w' hSw; (try dsimp only at hSw); go_simp; all_goals with_reducible rfl)
          try simp only [Act.put, List.setIfInBounds_toArray, List.set_cons_zero, List.set_cons_succ]
          refine take_at (i := 10) (v := ?_) 51 rfl rfl (by kernel_rfl) (by kernel_rfl) (by kernel_rfl) (fun _ _ _ h => h) (Or.inl ⟨by rfl, ?_⟩) (by assumption) ?_
          rotate_left
          · (intro w' hSw; (try dsimp only at hSw); go_simp; all_goals with_reducible rfl)
          try simp only [Act.put, List.setIfInBounds_toArray, List.set_cons_zero, List.set_cons_succ]
          refine take_at (i := 11) (v := ?_) 52 rfl rfl (by kernel_rfl) (by kernel_rfl) (by kernel_rfl) (fun _ _ _ h => h) (Or.inl ⟨by rfl, ?_⟩) (by assumption) ?_
          rotate_left
          · (intro w' hSw; (try dsimp only at hSw); go_simp; all_goals with_reducible rfl)
          try simp only [Act.put, List.setIfInBounds_toArray, List.set_cons_zero, List.set_cons_succ]
          refine take_at (i := 12) (v := ?_) 53 rfl rfl (by kernel_rfl) (by kernel_rfl) (by kernel_rfl) (fun _ _ _ h => h) (Or.inl ⟨by rfl, ?_⟩) (by assumption) ?_
          rotate_left
          · (intro w' hSw; (try dsimp only at hSw); go_simp; all_goals with_reducible rfl)
          try simp only [Act.put, List.setIfInBounds_toArray, List.set_cons_zero, List.set_cons_succ]
          refine wpAnyH_ready (rs := [6]) (by kernel_rfl) (by simp) ?_
          refine AllReadyH.cons rfl (fun K hK => ?_) AllReadyH.nil
          go_simp
          refine (hBa _).mono ?_
          rintro e v1 ⟨rfl, rfl⟩
          go_wp2_with fail
          refine hK.out _ _ (cell_later (Below.refl _ _).drew k1) (fun hHeld1 => ?_)
          clear hK hHeld
          try simp only [Act.put, List.setIfInBounds_toArray, List.set_cons_zero, List.set_cons_succ]
          refine take_at (i := 13) (v := ?_) 54 rfl rfl (by kernel_rfl) (by kernel_rfl) (by kernel_rfl) (fun _ _ _ h => h) (Or.inl ⟨by rfl, ?_⟩) (by assumption) ?_
          rotate_left
          · (intro w' hSw; (try dsimp only at hSw); go_simp; all_goals with_reducible rfl)
          try simp only [Act.put, List.setIfInBounds_toArray, List.set_cons_zero, List.set_cons_succ]
          refine wpAnyH_ready (rs := [14]) (by kernel_rfl) (by simp) ?_
          refine AllReadyH.cons rfl (fun K hK => ?_) AllReadyH.nil
          go_simp
          refine (fill_c ⟨i0, bv, lv + i + 1, ov⟩ HOKi.out HBFd.out (by have := HLLi.out; omega) HFd.out).mono ?_
          rintro e v2 ⟨rfl, hB2, hT2⟩
          go_wp2_with fail
          refine hK.out _ _ (turn_cell hT2 HNX.out (cell_later (Below.refl _ _).drew k1)) (fun hHeld2 => ?_)
          clear hK hHeld1 k1
          try simp only [Act.put, List.setIfInBounds_toArray, List.set_cons_zero, List.set_cons_succ]
          refine wpAnyH_done (by kernel_rfl) ?_ _
          refine NoPanic.normal ?_
          clear hHeld2
          have HB2 := Hid.mk hB2
          have HT2 := Hid.mk hT2
          clear hB2 hT2
          go_wp2
          go_roundw
          case rel =>
            refine ⟨i + 1, by have := HLT.out; omega, by go_num, HTI.out, ?_, Turn.xpp HTU.out (below_tr HBW.out (Below.refl _ _).drew) HT2.out⟩
            rw [HY2.out]
            exact Buf.xpp HB2.out HSZ.out (below_tr HBW.out (Below.refl _ _).drew).size HT2.out.size HXL.out
          case measure => have := HLT.out; simp [RowKit.intOf]; omega
    · have hlt2 : ¬ (i : Int) < n := by omega
      obtain rfl : i = n := by omega
      clear hlt hi hB hTu hT
      go_wp2
      go_ret
      exact ⟨i, Nat.le_refl _, HT.out, fun h => absurd h (Nat.lt_irrefl _), rfl, HB.out, HTU.out⟩

end Go.Proofs.YtndjhedoandinaaGreatDoor.TR

/- Trails: the walk of Best. -/
namespace Go.Proofs.YtndjhedoandinaaGreatDoor.TR
open Go.RowKit

/-- A mark's cells, written out. -/
abbrev En.ar (e : En) : Array Value := #[.int .i64 e.aid, .int .u64 (e.va : Int), .int .i64 e.lv, .int .u64 (e.tb : Int)]
/-- The best of the first i: the last one of the greatest level. -/
def bstI (p : En → Bool) (l : List En) : Nat → En
  | 0 => e0
  | i + 1 => if (p (gE l i) && decide ((bstI p l i).lv ≤ (gE l i).lv)) = true then gE l i else bstI p l i
def bstE (p : En → Bool) (l : List En) : En := bstI p l l.length
theorem bst_no {p : En → Bool} {l : List En} {i : Nat} (h : p (gE l i) = false) : bstI p l (i + 1) = bstI p l i := by
  show (if _ then _ else _) = _
  rw [h, Bool.false_and, if_neg (by decide)]
theorem bst_low {p : En → Bool} {l : List En} {i : Nat} (h : ¬ (bstI p l i).lv ≤ (gE l i).lv) : bstI p l (i + 1) = bstI p l i := by
  show (if _ then _ else _) = _
  rw [decide_eq_false h, Bool.and_false, if_neg (by decide)]
theorem bst_yes {p : En → Bool} {l : List En} {i : Nat} (h : p (gE l i) = true) (h1 : (bstI p l i).lv ≤ (gE l i).lv) : bstI p l (i + 1) = gE l i := by
  show (if _ then _ else _) = _
  rw [h, decide_eq_true h1, if_pos (by decide)]

theorem row4' {w1 : World} {g t : Nat} {c0 c1 c2 c3 : Value} (v0 v1 v2 v3 : Value) (hh : w1.heap[g]? = some (.cells #[c0, c1, c2, c3] t (0, 0))) :
    ((((w1.setCell ⟨g, 0, none⟩ v0).setCell ⟨g, 1, none⟩ v1).setCell ⟨g, 2, none⟩ v2).setCell ⟨g, 3, none⟩ v3).heap[g]? = some (.cells #[v0, v1, v2, v3] t (0, 0)) := by
  have h0 := heap_setCell_same _ g 0 _ _ v0 hh
  simp only [List.setIfInBounds_toArray, List.set_cons_zero] at h0
  have h1 := heap_setCell_same _ g 1 _ _ v1 h0
  simp only [List.setIfInBounds_toArray, List.set_cons_zero, List.set_cons_succ] at h1
  have h2 := heap_setCell_same _ g 2 _ _ v2 h1
  simp only [List.setIfInBounds_toArray, List.set_cons_zero, List.set_cons_succ] at h2
  have h3 := heap_setCell_same _ g 3 _ _ v3 h2
  simp only [List.setIfInBounds_toArray, List.set_cons_zero, List.set_cons_succ] at h3
  exact h3

set_option maxHeartbeats 2000000 in
set_option maxRecDepth 100000 in
theorem best_c {w : World} {X : Nat → Prop} {t : Nat} {most : Int} {l : List En} (h : Buf w X t most l) (hn : l.length ≤ 1000) (i0 : Int) (x : Nat) (hx : x < 18446744073709551616) :
    Calls Tryz.prog 130 #[.pointer (some ⟨t, 0, none⟩), .int .i64 i0, .int .u64 x] w fun r w' => r = .returned (.tuple #[(bstE (fun e => mB e i0 x) l).v, .bool (decide (1 ≤ (bstE (fun e => mB e i0 x) l).lv))]) ∧ Below w.heap.size w w' := by
  obtain ⟨v, h⟩ := h
  obtain ⟨ad, cap, rfl, hf, hr⟩ := h.form
  have hM := fun e h1 h3 w1 => matches_any e h1 h3 i0 x hx w1
  have HRE : Hid (bstE (fun e => mB e i0 x) l = bstI (fun e => mB e i0 x) l l.length) := rfl
  have HZ : Hid (bstI (fun e => mB e i0 x) l 0 = e0) := rfl
  have HNO : Hid (∀ i, mB (gE l i) i0 x = false → bstI (fun e => mB e i0 x) l (i + 1) = bstI (fun e => mB e i0 x) l i) := fun i h1 => bst_no h1
  have HLO : Hid (∀ i, (gE l i).lv < (bstI (fun e => mB e i0 x) l i).lv → bstI (fun e => mB e i0 x) l (i + 1) = bstI (fun e => mB e i0 x) l i) := fun i h1 => bst_low (by omega)
  have HYES : Hid (∀ i, mB (gE l i) i0 x = true → (bstI (fun e => mB e i0 x) l i).lv ≤ (gE l i).lv → bstI (fun e => mB e i0 x) l (i + 1) = gE l i) := fun i h1 h2 => bst_yes h1 h2
  have HM := Hid.mk hM
  have HR := Hid.mk hr
  have HOK : Hid (∀ e ∈ l, 1 ≤ e.lv ∧ e.lv ≤ 3) := fun e he => right_lv (h.ok e he).2
  have hlI : (l.length : Int) ≤ 1000 := by omega
  obtain ⟨-, c1⟩ := row2c h.row
  have c1a := fun o1 o2 => cell_later (below_new (w.alloc o1) o2) (cell_later (below_new w o1) c1)
  clear h hf hr hM hn hx c1
  generalize bstE (fun e => mB e i0 x) l = FE at *
  generalize bstI (fun e => mB e i0 x) l = fI at *
  go_enter Tryz.func130, Tryz.ntmps130
  go_wp2
  clear c1a
  go_loopw [10, 16] (fun _ s16 wr => ∃ i : Nat, i ≤ l.length ∧ s16 = .int .i64 (i : Nat) ∧ Below w.heap.size w wr ∧ wr.heap[w.heap.size]? = some (.cells e0.ar 112 (0, 0)) ∧ wr.heap[w.heap.size + 1]? = some (.cells (fI i).ar 112 (0, 0))) (fun _ s16 _ => l.length - (RowKit.intOf s16).toNat)
  case atStart =>
    refine ⟨0, by omega, rfl, below_tr (below_new _ _) (below_new _ _), heap_alloc2_old _ _ _, ?_⟩
    rw [HZ.out]; exact heap_alloc2_new _ _ _
  case round =>
    obtain ⟨i, hi, rfl, hb, h6, h8⟩ := hrel
    have HB := Hid.mk hb
    have H6 := Hid.mk h6
    have H8 := Hid.mk h8
    by_cases hlt : i < l.length
    · have hlt2 : (i : Int) < l.length := by omega
      have HLT := Hid.mk hlt
      have hib : (i : Int) < 1000 := by omega
      obtain ⟨g, o, rfl, hg, hc⟩ := HR.out i hlt
      have d0 := cell_later hb (hc 0 _ rfl)
      have d1 := cell_later hb (hc 1 _ rfl)
      have d2 := cell_later hb (hc 2 _ rfl)
      have d3 := cell_later hb (hc 3 _ rfl)
      rw [Nat.add_zero] at d0
      have hok := HOK.out (gE l i) (gE_mem l i hlt)
      have hcall := HM.out (gE l i) hok.1 hok.2
      have HNi := Hid.mk (HNO.out i)
      have HLi := Hid.mk (HLO.out i)
      have HYi := Hid.mk (HYES.out i)
      clear hc hb hi hlt h6 h8 hg hok
      cases hpy : mB (gE l i) i0 x
      · have HN2 := Hid.mk (HNi.out hpy)
        rw [hpy] at hcall
        clear hpy HNi HYi HLi
        generalize (gE l i) = y at *
        obtain ⟨b0, b1, b2, b3⟩ := y
        simp only [En.v] at *
        go_wp2_with fail
        refine (hcall _).mono ?_
        rintro e w' ⟨rfl, hb'⟩
        clear hcall d0 d1 d2 d3
        have hB2 := Hid.mk (below_tr (below_new _ _) hb')
        clear hb'
        go_wp2
        go_roundw
        case rel =>
          refine ⟨i + 1, by have := HLT.out; omega, by go_num, below_tr HB.out hB2.out, block_later hB2.out H6.out, ?_⟩
          rw [HN2.out]; exact block_later hB2.out H8.out
        case measure => have := HLT.out; simp [RowKit.intOf]; omega
      · rw [hpy] at hcall
        by_cases h0 : (fI i).lv ≤ (gE l i).lv
        · have HY2 := Hid.mk (HYi.out hpy h0)
          clear hpy HNi HYi HLi
          generalize hz : fI i = z at *
          clear hz
          generalize (gE l i) = y at *
          obtain ⟨b0, b1, b2, b3⟩ := y
          obtain ⟨z0, z1, z2, z3⟩ := z
          simp only [En.v, En.ar] at *
          go_wp2_with fail
          refine (hcall _).mono ?_
          rintro e w' ⟨rfl, hb'⟩
          clear hcall d0 d1 d2 d3
          have hB2 := Hid.mk (below_tr (below_new wr (.cells #[.int .i64 b0, .int .u64 b1, .int .i64 b2, .int .u64 b3] 112)) hb')
          have hK7 := block_later hb' (heap_alloc_new wr (.cells #[.int .i64 b0, .int .u64 b1, .int .i64 b2, .int .u64 b3] 112))
          obtain ⟨q0, q1, q2, q3⟩ := cells4 hK7
          have hK8 := block_later hB2.out H8.out
          obtain ⟨y0, y1, y2, y3⟩ := cells4 hK8
          clear hb' hK7 hK8
          go_wp2_with (first
            | (refine wpList_store_segTo rfl 112 _ _ rfl rfl (w.heap.size + 1) 0 _ #[.int .i64 b0, .int .u64 b1, .int .i64 b2, .int .u64 b3] rfl rfl rfl 112 _ (block_later hB2.out H8.out) (show 0 + 4 ≤ 4 by decide) info_en (by simp [Value.oneCell']) #[.int .i64 b0, .int .u64 b1, .int .i64 b2, .int .u64 b3] rfl ?_
               intro w8 hk8 ht8
               clear q0 q1 q2 q3 y0 y1 y2 y3)
            | fail)
          go_roundw
          case rel =>
            refine ⟨i + 1, by have := HLT.out; omega, by go_num, below_turn (below_tr HB.out hB2.out) ht8 (by omega), block_turn ht8 (block_later hB2.out H6.out) (by omega), ?_⟩
            rw [HY2.out]; exact hk8
          case measure => have := HLT.out; simp [RowKit.intOf]; omega
        · have HY2 := Hid.mk (HLi.out (by omega))
          clear hpy HNi HYi HLi
          generalize hz : fI i = z at *
          have HZI := Hid.mk hz
          clear hz
          generalize (gE l i) = y at *
          obtain ⟨b0, b1, b2, b3⟩ := y
          obtain ⟨z0, z1, z2, z3⟩ := z
          simp only [En.v, En.ar] at *
          go_wp2_with fail
          refine (hcall _).mono ?_
          rintro e w' ⟨rfl, hb'⟩
          clear hcall d0 d1 d2 d3
          have hB2 := Hid.mk (below_tr (below_new wr (.cells #[.int .i64 b0, .int .u64 b1, .int .i64 b2, .int .u64 b3] 112)) hb')
          have hK7 := block_later hb' (heap_alloc_new wr (.cells #[.int .i64 b0, .int .u64 b1, .int .i64 b2, .int .u64 b3] 112))
          obtain ⟨q0, q1, q2, q3⟩ := cells4 hK7
          have hK8 := block_later hB2.out H8.out
          obtain ⟨y0, y1, y2, y3⟩ := cells4 hK8
          clear hb' hK7 hK8
          go_wp2
          go_roundw
          case rel =>
            refine ⟨i + 1, by have := HLT.out; omega, by go_num, below_tr HB.out hB2.out, block_later hB2.out H6.out, ?_⟩
            rw [HY2.out]; exact block_later hB2.out H8.out
          case measure => have := HLT.out; simp [RowKit.intOf]; omega
    · have hlt2 : ¬ (i : Int) < l.length := by omega
      obtain rfl : i = l.length := by omega
      have HF6 := Hid.mk h6
      rw [← HRE.out] at h8
      obtain ⟨b0, b1, b2, b3⟩ := FE
      simp only [En.v, En.ar] at *
      obtain ⟨q0, q1, q2, q3⟩ := cells4 h8
      have f0 := frozen_of_row wr w.heap.size 0 _ _ h6
      have f1 := frozen_of_row wr w.heap.size 1 _ _ h6
      have f2 := frozen_of_row wr w.heap.size 2 _ _ h6
      have f3 := frozen_of_row wr w.heap.size 3 _ _ h6
      obtain ⟨p0, p1, p2, p3⟩ := cells4 h6
      clear h6 h8 hb hi hlt
      go_wp2
      go_region
      all_goals go_wp2
      all_goals
        refine bodyPost_ret (v := .tuple #[.agg #[.int .i64 b0, .int .u64 b1, .int .i64 b2, .int .u64 b3], .bool (decide (1 ≤ b2))]) ?_ rfl ⟨rfl, ((((HB.out.setCell (p := ⟨w.heap.size, 0, none⟩) (Nat.le_refl _) _).setCell (p := ⟨w.heap.size, 1, none⟩) (Nat.le_refl _) _).setCell (p := ⟨w.heap.size, 2, none⟩) (Nat.le_refl _) _).setCell (p := ⟨w.heap.size, 3, none⟩) (Nat.le_refl _) _).drew⟩
        exact res_row_tmp (p := 6) (u := 7) rfl _ _ w.heap.size 112 _ (0, 0) _ rfl (row4' _ _ _ _ HF6.out) Tryz.underlying112 rfl (by kernel_rfl)

end Go.Proofs.YtndjhedoandinaaGreatDoor.TR

/- Addresses of one stretch: walks of them are the same. -/
namespace Go.Proofs.YtndjhedoandinaaGreatDoor

theorem wk_level {S : Nat} {f : Nat → Nat} {va : Nat} {l : Int} {x : Nat} : ∀ {k tb : Nat}, k ≤ 4 → (wk S f va k tb).2 = (0, l, x) → (4 : Int) - k ≤ l ∧ l ≤ 3 ∧ mf S l x = 0 ∧ rdK l x ≠ 1
  | 0, tb, _, h => by unfold wk at h; exact absurd (congrArg Prod.fst h) (show ¬ (1 : Int) = 0 by decide)
  | k + 1, tb, hk, h => by
    by_cases he : errA S (tb + 8 * idxN va (3 - k)) = 0
    · by_cases hm : mf S (3 - k) (f (tb + 8 * idxN va (3 - k))) = 0
      · by_cases hr : rdK (3 - k) (f (tb + 8 * idxN va (3 - k))) = 1
        · rw [wk_table rfl rfl he hm hr] at h
          obtain ⟨h1, h2⟩ := wk_level (k := k) (by omega) h
          exact ⟨by omega, h2⟩
        · rw [wk_leaf rfl rfl he hm hr] at h
          have e1 := congrArg (fun q => q.2.1) h
          have e2 := congrArg (fun q => q.2.2) h
          simp only at e1 e2
          subst e1
          rw [e2] at hm hr
          exact ⟨by omega, by omega, hm, hr⟩
      · rw [wk_fault rfl rfl he hm] at h
        exact absurd (congrArg Prod.fst h) hm
    · rw [wk_err rfl rfl he] at h
      exact absurd (congrArg Prod.fst h) (show ¬ (4 : Int) = 0 by decide)

theorem wk_same {S : Nat} {f : Nat → Nat} {va vb : Nat} {l : Int} {x : Nat} (hi : ∀ l', 0 ≤ l' → l' ≤ l → idxN va l' = idxN vb l') : ∀ {k tb : Nat}, k ≤ 4 → (wk S f va k tb).2 = (0, l, x) → wk S f vb k tb = wk S f va k tb
  | 0, tb, _, h => by unfold wk; rfl
  | k + 1, tb, hk, h => by
    have hl := (wk_level hk h).1
    have e := hi (3 - k) (by omega) (by omega)
    by_cases he : errA S (tb + 8 * idxN va (3 - k)) = 0
    · by_cases hm : mf S (3 - k) (f (tb + 8 * idxN va (3 - k))) = 0
      · by_cases hr : rdK (3 - k) (f (tb + 8 * idxN va (3 - k))) = 1
        · have hq := h
          rw [wk_table rfl rfl he hm hr] at hq
          have ih := wk_same hi (k := k) (by omega) hq
          rw [wk_table rfl rfl he hm hr, wk_table rfl (by rw [e]) he hm hr, ih]
        · rw [wk_leaf rfl rfl he hm hr, wk_leaf rfl (by rw [e]) he hm hr]
      · rw [wk_fault rfl rfl he hm, wk_fault rfl (by rw [e]) he hm]
    · rw [wk_err rfl rfl he, wk_err rfl (by rw [e]) he]

/-- What a leaf's walk says of the leaf. -/
theorem wk0_leaf {S : Nat} {f : Nat → Nat} {tb va : Nat} {l l0 : Int} {x : Nat} (h : (wk0 S f l0 tb va).2 = (0, l, x)) : isLv l0 = true ∧ tb % 4096 = 0 ∧ va < 281474976710656 ∧ l0 ≤ l ∧ isLv l = true ∧ mf S l x = 0 ∧ rdK l x ≠ 1 := by
  unfold wk0 at h
  split at h
  · rename_i hc
    have h4 := isLv_of hc.1
    have := wk_level (by omega) h
    exact ⟨hc.1, hc.2.1, hc.2.2, by omega, decide_eq_true (by omega), this.2.2⟩
  · exact absurd (congrArg Prod.fst h) (show ¬ (1 : Int) = 0 by decide)

theorem mf_holds {S : Nat} {l : Int} {x : Nat} (hm : mf S l x = 0) (hk : rdK l x ≠ 1) : rdO x + 2 ^ lowK l ≤ S := by
  unfold mf at hm
  split at hm
  · cases hm
  · split at hm
    · cases hm
    · split at hm
      · cases hm
      · rename_i _ _ c
        apply Classical.byContradiction
        intro h
        exact c ⟨hk, by omega⟩

/-- An address of the stretch of va. -/
def inV (va off : Nat) (l : Int) : Nat := baseV va l ||| offV off l

theorem inV_eq {va off : Nat} {l : Int} (hl : isLv l = true) (hv : va < 281474976710656) : inV va off l = va / 2 ^ lowK l * 2 ^ lowK l + off % 2 ^ lowK l := by
  unfold inV baseV offV baseN
  rw [if_pos hl, if_pos hl, Nat.mod_eq_of_lt hv, Nat.mul_comm, Nat.two_pow_add_eq_or_of_lt (Nat.mod_lt _ (Nat.two_pow_pos _))]

theorem inV_div {va off : Nat} {l : Int} (hl : isLv l = true) (hv : va < 281474976710656) : inV va off l / 2 ^ lowK l = va / 2 ^ lowK l := by
  rw [inV_eq hl hv, Nat.mul_comm, Nat.mul_add_div (Nat.two_pow_pos _), Nat.div_eq_of_lt (Nat.mod_lt _ (Nat.two_pow_pos _)), Nat.add_zero]
theorem inV_off {va off : Nat} {l : Int} (hl : isLv l = true) (hv : va < 281474976710656) : offV (inV va off l) l = offV off l := by
  unfold offV
  rw [if_pos hl, if_pos hl, inV_eq hl hv, Nat.mul_comm, Nat.mul_add_mod, Nat.mod_mod]
theorem lowK_val {l : Int} (hl : isLv l = true) : (lowK l : Int) = 39 - 9 * l := (lowK_eq hl).2.2.2
theorem div_mono {va vb n m : Nat} (h : vb / 2 ^ n = va / 2 ^ n) (hnm : n ≤ m) : vb / 2 ^ m = va / 2 ^ m := by
  obtain ⟨d, rfl⟩ := Nat.exists_eq_add_of_le hnm
  rw [Nat.pow_add, ← Nat.div_div_eq_div_mul, ← Nat.div_div_eq_div_mul, h]
theorem inV_low {va off : Nat} {l : Int} (hl : isLv l = true) (hv : va < 281474976710656) : inV va off l < 281474976710656 := by
  have h1 := inV_div (off := off) hl hv
  have h2 := lowK_eq hl
  have h3 : inV va off l / 2 ^ 48 = va / 2 ^ 48 := div_mono h1 (by omega)
  have h4 : va / 2 ^ 48 = 0 := Nat.div_eq_of_lt hv
  rw [h4] at h3
  have := Nat.lt_of_div_eq_zero (Nat.two_pow_pos 48) h3
  exact this
theorem idx_of_div {va vb : Nat} {l l' : Int} (hl : isLv l = true) (h0 : 0 ≤ l') (hle : l' ≤ l) (h : vb / 2 ^ lowK l = va / 2 ^ lowK l) : idxN va l' = idxN vb l' := by
  have h1 := lowK_val hl
  have h2 := isLv_of hl
  have h3 := lowK_val (l := l') (decide_eq_true (by omega))
  unfold idxN
  rw [div_mono h (show lowK l ≤ lowK l' by omega)]
theorem stretch_same {S : Nat} {f : Nat → Nat} {tb va vb : Nat} {l : Int} {x : Nat} (h : (wk0 S f 0 tb va).2 = (0, l, x)) (hd : vb / 2 ^ lowK l = va / 2 ^ lowK l) (hv : vb < 281474976710656) : wk0 S f 0 tb vb = wk0 S f 0 tb va := by
  obtain ⟨h0, ht, hva, _, hl, _⟩ := wk0_leaf h
  unfold wk0 at h ⊢
  rw [if_pos ⟨h0, ht, hva⟩] at h
  rw [if_pos ⟨h0, ht, hv⟩, if_pos ⟨h0, ht, hva⟩]
  exact wk_same (fun l' h1 h2 => idx_of_div hl h1 h2 hd) (by decide) h
end Go.Proofs.YtndjhedoandinaaGreatDoor

/- A walk goes on as the walk from any table that it comes through. -/
namespace Go.Proofs.YtndjhedoandinaaGreatDoor

theorem rdO_mod' (x : Nat) : rdO x % 4096 = 0 := by
  unfold rdO
  split
  · rfl
  · show outV x % 4096 = 0
    have h := mask_mod (l := 12) (n := 36) (by decide) x
    unfold outV
    have h2 : x &&& maskV 12 36 = x / 2 ^ 12 % 2 ^ 36 * 2 ^ 12 := h
    rw [h2]
    exact Nat.mul_mod_left _ _
theorem rdK_three {x : Nat} {l : Int} (hl : l = 3) : rdK l x ≠ 1 := by
  subst hl
  unfold rdK
  split
  · decide
  · rw [if_neg (by simp)]
    split <;> decide

/-- The words that a walk reads are memory's. -/
theorem wk_words {S : Nat} {f : Nat → Nat} {va : Nat} : ∀ {k tb : Nat} {q : Nat × Nat}, q ∈ (wk S f va k tb).1 → q.2 = f q.1
  | 0, tb, q, h => by unfold wk at h; cases h
  | k + 1, tb, q, h => by
    by_cases he : errA S (tb + 8 * idxN va (3 - k)) = 0
    · by_cases hm : mf S (3 - k) (f (tb + 8 * idxN va (3 - k))) = 0
      · by_cases hq : rdK (3 - k) (f (tb + 8 * idxN va (3 - k))) = 1
        · rw [wk_table rfl rfl he hm hq] at h
          rcases List.mem_cons.1 h with rfl | h
          · rfl
          · exact wk_words h
        · rw [wk_leaf rfl rfl he hm hq] at h
          obtain rfl := List.mem_singleton.1 h
          rfl
      · rw [wk_fault rfl rfl he hm] at h
        obtain rfl := List.mem_singleton.1 h
        rfl
    · rw [wk_err rfl rfl he] at h
      cases h

theorem wk_tail {S : Nat} {f : Nat → Nat} {va : Nat} : ∀ {k tb i : Nat}, k ≤ 4 → i < (wk S f va k tb).1.length → goodD (4 - k + i) (wk S f va k tb).1[i]!.2 = true → rdK (4 - k + i) (wk S f va k tb).1[i]!.2 = 1 →
    i + 1 < k ∧ (wk S f va (k - 1 - i) (rdO (wk S f va k tb).1[i]!.2)).2 = (wk S f va k tb).2
  | 0, tb, i, _, h, _, _ => by unfold wk at h; cases h
  | k + 1, tb, i, hk, h, hg, hr => by
    by_cases he : errA S (tb + 8 * idxN va (3 - k)) = 0
    · by_cases hm : mf S (3 - k) (f (tb + 8 * idxN va (3 - k))) = 0
      · by_cases hq : rdK (3 - k) (f (tb + 8 * idxN va (3 - k))) = 1
        · rw [wk_table rfl rfl he hm hq] at h hg hr ⊢
          cases i with
          | zero =>
            refine ⟨?_, ?_⟩
            · apply Classical.byContradiction
              intro c
              exact rdK_three (by omega) hq
            · rfl
          | succ i =>
            have h' : i < (wk S f va k (rdO (f (tb + 8 * idxN va (3 - k))))).1.length := by simpa using h
            have el : (4 : Int) - ((k + 1 : Nat) : Int) + ((i + 1 : Nat) : Int) = 4 - (k : Int) + (i : Int) := by omega
            rw [el] at hg hr
            have ei : ∀ (q : Nat × Nat) (L : List (Nat × Nat)), (q :: L)[i + 1]! = L[i]! := fun q L => by simp
            simp only [ei] at hg hr ⊢
            obtain ⟨h1, h2⟩ := wk_tail (k := k) (by omega) h' hg hr
            refine ⟨by omega, ?_⟩
            rw [show k + 1 - 1 - (i + 1) = k - 1 - i by omega]
            exact h2
        · rw [wk_leaf rfl rfl he hm hq] at h hg hr
          have hi : i = 0 := by simpa using h
          subst hi
          exfalso
          apply hq
          have el : (4 : Int) - ((k + 1 : Nat) : Int) + ((0 : Nat) : Int) = 3 - (k : Int) := by omega
          rw [el] at hr
          exact hr
      · rw [wk_fault rfl rfl he hm] at h hg hr
        have hi : i = 0 := by simpa using h
        subst hi
        exfalso
        apply hm
        have el : (4 : Int) - ((k + 1 : Nat) : Int) + ((0 : Nat) : Int) = 3 - (k : Int) := by omega
        rw [el] at hr hg
        have hr' : rdK (3 - (k : Int)) (f (tb + 8 * idxN va (3 - k))) = 1 := hr
        have hg' : goodD (3 - (k : Int)) (f (tb + 8 * idxN va (3 - k))) = true := hg
        unfold mf
        rw [if_neg (by rw [hg']; decide), if_neg (by rw [hr']; decide), if_neg (fun c => c.1 hr')]
    · rw [wk_err rfl rfl he] at h
      cases h
/-- .. said of walks from a root. -/
theorem roots_tail {S : Nat} {f : Nat → Nat} {va root i : Nat} (h : i < (wk0 S f 0 root va).1.length) (hg : goodD i (wk0 S f 0 root va).1[i]!.2 = true) (hr : rdK i (wk0 S f 0 root va).1[i]!.2 = 1) :
    (wk0 S f (i + 1) (rdO (wk0 S f 0 root va).1[i]!.2) va).2 = (wk0 S f 0 root va).2 := by
  by_cases hc : isLv 0 = true ∧ root % 4096 = 0 ∧ va < 281474976710656
  · have e : wk0 S f 0 root va = wk S f va 4 root := if_pos hc
    rw [e] at h hg hr ⊢
    obtain ⟨h1, h2⟩ := wk_tail (k := 4) (tb := root) (i := i) (by decide) h (by rw [show (4 : Int) - ((4 : Nat) : Int) + (i : Int) = i by omega]; exact hg) (by rw [show (4 : Int) - ((4 : Nat) : Int) + (i : Int) = i by omega]; exact hr)
    have hm := rdO_mod' (wk S f va 4 root).1[i]!.2
    have e2 : wk0 S f (i + 1) (rdO (wk S f va 4 root).1[i]!.2) va = wk S f va (4 - ((i : Int) + 1)).toNat (rdO (wk S f va 4 root).1[i]!.2) := if_pos ⟨decide_eq_true (by omega), hm, hc.2.2⟩
    rw [e2, show (4 - ((i : Int) + 1)).toNat = 4 - 1 - i by omega]
    exact h2
  · have e : wk0 S f 0 root va = ([], 1, 0, 0) := if_neg hc
    rw [e] at h
    cases h
theorem wk0_words {S : Nat} {f : Nat → Nat} {va root i : Nat} (h : i < (wk0 S f 0 root va).1.length) : (wk0 S f 0 root va).1[i]!.2 = f (wk0 S f 0 root va).1[i]!.1 := by
  by_cases hc : isLv 0 = true ∧ root % 4096 = 0 ∧ va < 281474976710656
  · have e : wk0 S f 0 root va = wk S f va 4 root := if_pos hc
    rw [e] at h ⊢
    refine wk_words (S := S) (va := va) (k := 4) (tb := root) ?_
    rw [getElem!_pos _ i h]
    exact List.getElem_mem h
  · have e : wk0 S f 0 root va = ([], 1, 0, 0) := if_neg hc
    rw [e] at h
    cases h
end Go.Proofs.YtndjhedoandinaaGreatDoor

namespace Go.Proofs.YtndjhedoandinaaGreatDoor.TR
open Go.RowKit Go.Maps

theorem wk_word {S : Nat} {f : Nat → Nat} {va x : Nat} : ∀ {k tb i : Nat}, k ≤ 4 → (∀ l' : Int, 0 ≤ l' → l' ≤ 4 - k + i → idxN va l' = idxN x l') → i < (wk S f x k tb).1.length →
    i < (wk S f va k tb).1.length ∧ (wk S f va k tb).1[i]! = (wk S f x k tb).1[i]!
  | 0, tb, i, _, _, h => by unfold wk at h; cases h
  | k + 1, tb, i, hk, hi, h => by
    have e := hi (3 - k) (by omega) (by omega)
    by_cases he : errA S (tb + 8 * idxN x (3 - k)) = 0
    · by_cases hm : mf S (3 - k) (f (tb + 8 * idxN x (3 - k))) = 0
      · by_cases hq : rdK (3 - k) (f (tb + 8 * idxN x (3 - k))) = 1
        · rw [wk_table rfl rfl he hm hq] at h ⊢
          rw [wk_table rfl (by rw [e]) he hm hq]
          cases i with
          | zero => exact ⟨Nat.succ_pos _, rfl⟩
          | succ i =>
            have h' : i < (wk S f x k (rdO (f (tb + 8 * idxN x (3 - k))))).1.length := by simpa using h
            obtain ⟨q1, q2⟩ := wk_word (va := va) (k := k) (by omega) (fun l' h0 h1 => hi l' h0 (by omega)) h'
            refine ⟨by simpa using q1, ?_⟩
            show (_ :: (wk S f va k (rdO (f (tb + 8 * idxN x (3 - k))))).1)[i + 1]! = (_ :: (wk S f x k (rdO (f (tb + 8 * idxN x (3 - k))))).1)[i + 1]!
            simpa using q2
        · rw [wk_leaf rfl rfl he hm hq] at h ⊢
          rw [wk_leaf rfl (by rw [e]) he hm hq]
          exact ⟨h, rfl⟩
      · rw [wk_fault rfl rfl he hm] at h ⊢
        rw [wk_fault rfl (by rw [e]) he hm]
        exact ⟨h, rfl⟩
    · rw [wk_err rfl rfl he] at h
      cases h

/-- A mark leads a walk to where the walk from the root comes. -/
def GoodM (S : Nat) (f : Nat → Nat) (root : Nat) (e : En) : Prop := ∀ va, va < 281474976710656 → baseV va (e.lv - 1) = e.va → (wk0 S f e.lv e.tb va).2 = (wk0 S f 0 root va).2

theorem base_div {va x : Nat} {l : Int} (hl : isLv l = true) (hv : va < 281474976710656) (hx : x < 281474976710656) (h : baseV va l = baseV x l) : va / 2 ^ lowK l = x / 2 ^ lowK l := by
  unfold baseV baseN at h
  rw [if_pos hl, if_pos hl, Nat.mod_eq_of_lt hv, Nat.mod_eq_of_lt hx] at h
  exact Nat.eq_of_mul_eq_mul_right (Nat.two_pow_pos _) h

theorem good_wd {S : Nat} {f : Nat → Nat} {root x i : Nat} (i0 : Int) (h : i < (wk0 S f 0 root x).1.length) (ht : isT (0 + i) (wk0 S f 0 root x).1[i]!.2 = true) : GoodM S f root (wdE i0 x 0 (fun j => (wk0 S f 0 root x).1[j]!.2) i) := by
  intro va hv hb
  have hlv := isT_lv ht
  have hc : isLv 0 = true ∧ root % 4096 = 0 ∧ x < 281474976710656 := by
    apply Classical.byContradiction
    intro c
    have e : wk0 S f 0 root x = ([], 1, 0, 0) := if_neg c
    rw [e] at h; cases h
  have ex : wk0 S f 0 root x = wk S f x 4 root := if_pos hc
  have ev : wk0 S f 0 root va = wk S f va 4 root := if_pos ⟨hc.1, hc.2.1, hv⟩
  have hl : isLv (0 + (i : Int)) = true := by unfold isLv; rw [decide_eq_true_eq]; omega
  have hb' : baseV va (0 + (i : Int)) = baseV x (0 + (i : Int)) := by
    have e1 : (wdE i0 x 0 (fun j => (wk0 S f 0 root x).1[j]!.2) i).lv - 1 = 0 + (i : Int) := by show 0 + (i : Int) + 1 - 1 = _; omega
    rw [e1] at hb
    exact hb
  have hd := base_div hl hv hc.2.2 hb'
  have hw := wk_word (S := S) (f := f) (va := va) (x := x) (k := 4) (tb := root) (i := i) (by decide) (fun l' h0 h1 => (idx_of_div hl h0 (by omega) hd).symm) (by rw [← ex]; exact h)
  rw [← ex, ← ev] at hw
  have ht2 := ht
  unfold isT at ht2
  rw [Bool.and_eq_true, Bool.and_eq_true, decide_eq_true_eq, show (0 : Int) + (i : Int) = (i : Int) by omega] at ht2
  have hr := roots_tail (S := S) (f := f) (va := va) (root := root) (i := i) hw.1 (by rw [hw.2]; exact ht2.2.1) (by rw [hw.2]; exact ht2.2.2)
  rw [hw.2] at hr
  show (wk0 S f (0 + (i : Int) + 1) (rdO (wk0 S f 0 root x).1[i]!.2) va).2 = _
  rw [show (0 : Int) + (i : Int) + 1 = (i : Int) + 1 by omega]
  exact hr

def GoodL (S : Nat) (f : Nat → Nat) (root : Nat) (l : List En) : Prop := ∀ e ∈ l, GoodM S f root e
theorem mem_fill {l : List En} {m : Int} {e y : En} (h : y ∈ fillL l m e) : y ∈ l ∨ y = e := by
  unfold fillL at h
  split at h
  · split at h
    · exact Or.inl h
    · split at h
      · have := List.mem_of_mem_eraseIdx h
        rcases List.mem_append.1 this with h1 | h1
        · exact Or.inl h1
        · exact Or.inr (List.mem_singleton.1 h1)
      · rcases List.mem_append.1 h with h1 | h1
        · exact Or.inl h1
        · exact Or.inr (List.mem_singleton.1 h1)
  · exact Or.inl h
theorem good_wdL {S : Nat} {f : Nat → Nat} {root x : Nat} {most i0 : Int} {l : List En} (hl : GoodL S f root l) : ∀ k, k ≤ (wk0 S f 0 root x).1.length → (∀ j : Nat, j < k → isT (0 + j) (wk0 S f 0 root x).1[j]!.2 = true) → GoodL S f root (wdL most i0 x 0 (fun j => (wk0 S f 0 root x).1[j]!.2) l k)
  | 0, _, _ => hl
  | k + 1, hk, ht => by
    have ih := good_wdL (most := most) (i0 := i0) hl k (by omega) (fun j hj => ht j (by omega))
    intro e he
    unfold wdL at he
    split at he
    · rcases mem_fill he with h1 | h1
      · exact ih e h1
      · rw [h1]; exact good_wd i0 (by omega) (ht k (by omega))
    · exact ih e he
theorem bst_in (p : En → Bool) (l : List En) : ∀ i, i ≤ l.length → bstI p l i = e0 ∨ (bstI p l i ∈ l ∧ p (bstI p l i) = true)
  | 0, _ => Or.inl rfl
  | i + 1, hi => by
    have ih := bst_in p l i (by omega)
    unfold bstI
    split
    · rename_i h
      rw [Bool.and_eq_true] at h
      exact Or.inr ⟨gE_mem l i (by omega), h.1⟩
    · exact ih
theorem bst_good {S : Nat} {f : Nat → Nat} {root va : Nat} {i0 : Int} {l : List En} (hl : GoodL S f root l) (h : 1 ≤ (bstE (fun e => mB e i0 va) l).lv) : (wk0 S f (bstE (fun e => mB e i0 va) l).lv (bstE (fun e => mB e i0 va) l).tb va).2 = (wk0 S f 0 root va).2 := by
  rcases bst_in (fun e => mB e i0 va) l l.length (Nat.le_refl _) with h1 | ⟨h1, h2⟩
  · have : bstE (fun e => mB e i0 va) l = e0 := h1
    rw [this] at h
    exact absurd h (by decide)
  · have hm : mB (bstE (fun e => mB e i0 va) l) i0 va = true := h2
    unfold mB at hm
    rw [Bool.and_eq_true, Bool.and_eq_true] at hm
    have hlow := hm.2.1
    have hb := hm.2.2
    unfold lowB at hlow
    unfold baseB at hb
    rw [Bool.and_eq_true, decide_eq_true_eq] at hb
    exact hl _ h1 va (of_decide_eq_true hlow) hb.2
theorem bst_zero {va : Nat} {i0 : Int} {l : List En} (hl : ∀ e ∈ l, 1 ≤ e.lv) (h : ¬ 1 ≤ (bstE (fun e => mB e i0 va) l).lv) : bstE (fun e => mB e i0 va) l = e0 := by
  rcases bst_in (fun e => mB e i0 va) l l.length (Nat.le_refl _) with h1 | ⟨h1, h2⟩
  · exact h1
  · exact absurd (hl _ h1) h

/-- A walk's steps, as a slice. -/
theorem wk_lt {S : Nat} {f : Nat → Nat} {va : Nat} (hf : ∀ x, f x < 18446744073709551616) (hS : S ≤ 4294967296) : ∀ {k tb : Nat} {q : Nat × Nat}, q ∈ (wk S f va k tb).1 → q.1 < 18446744073709551616 ∧ q.2 < 18446744073709551616
  | 0, tb, q, h => by unfold wk at h; cases h
  | k + 1, tb, q, h => by
    by_cases he : errA S (tb + 8 * idxN va (3 - k)) = 0
    · have hlt : tb + 8 * idxN va (3 - k) < S := by
        unfold errA at he
        split at he
        · cases he
        · split at he
          · cases he
          · omega
      by_cases hm : mf S (3 - k) (f (tb + 8 * idxN va (3 - k))) = 0
      · by_cases hq : rdK (3 - k) (f (tb + 8 * idxN va (3 - k))) = 1
        · rw [wk_table rfl rfl he hm hq] at h
          rcases List.mem_cons.1 h with rfl | h1
          · exact ⟨by show tb + 8 * idxN va (3 - k) < _; omega, hf _⟩
          · exact wk_lt hf hS h1
        · rw [wk_leaf rfl rfl he hm hq] at h
          obtain rfl := List.mem_singleton.1 h
          exact ⟨by show tb + 8 * idxN va (3 - k) < _; omega, hf _⟩
      · rw [wk_fault rfl rfl he hm] at h
        obtain rfl := List.mem_singleton.1 h
        exact ⟨by show tb + 8 * idxN va (3 - k) < _; omega, hf _⟩
    · rw [wk_err rfl rfl he] at h
      cases h
theorem wk0_lt {S : Nat} {f : Nat → Nat} {va tb : Nat} {l : Int} (hf : ∀ x, f x < 18446744073709551616) (hS : S ≤ 4294967296) (i : Nat) : (wk0 S f l tb va).1[i]!.1 < 18446744073709551616 ∧ (wk0 S f l tb va).1[i]!.2 < 18446744073709551616 := by
  by_cases hi : i < (wk0 S f l tb va).1.length
  · have hm : (wk0 S f l tb va).1[i]! ∈ (wk0 S f l tb va).1 := by rw [getElem!_pos _ i hi]; exact List.getElem_mem hi
    generalize (wk0 S f l tb va).1[i]! = q at *
    unfold wk0 at hm
    split at hm
    · exact wk_lt hf hS hm
    · cases hm
  · rw [getElem!_neg _ i hi]
    exact ⟨by decide, by decide⟩

end Go.Proofs.YtndjhedoandinaaGreatDoor.TR
