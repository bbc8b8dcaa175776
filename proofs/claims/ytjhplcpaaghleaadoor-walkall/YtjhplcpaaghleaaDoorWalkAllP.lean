/- What WalkAll needs: a list of leaves in cells, and that it is just what walks come to. -/
import Derived.Test.YtjhplcpaaghleaaDoorWalkAnc
import Derived.Test.YtjhplcpaaghleaaDoorAllN
import Derived.Test.YtjhplcpaaghleaaDoorStepOpen
import Derived.Test.YtjhplcpaaghleaaDoorWalkFrame
namespace Go.Proofs.YtjhplcpaaghleaaDoor.walkAll
open Go.ChangeShapes Go.WideShapes Go.ChangeAt Go.RowKit Go.Lib Go.Maps

theorem right20 : rightS 1048576 := ⟨by decide, by decide, by decide⟩

set_option maxHeartbeats 1000000 in
set_option maxRecDepth 100000 in
theorem walk_long (ad : Option Addr) (n cap root va : Nat) (most : Int) (w : World) (hn : 60 < n) (hF : Flds w) :
    Calls Tryd.prog 6 #[.slice ad n cap, .int .u64 root, .int .u64 va, .int .i64 most] w fun e w' => e = .returned (.bool true) ∧ Below w.heap.size w w' := by
  have hn2 : (60 : Int) < n := by omega
  have hL := fun w1 => laid_bad 1048576 n cap ad (by omega) (Or.inr ⟨right20, hn⟩) w1
  go_enter Tryd.func6, Tryd.ntmps6
  go_wp2_with fail
  refine (wanchor_any _ hF).mono ?_
  rintro e w1 ⟨rfl, hb1⟩
  go_wp2_with fail
  refine (hL _).mono ?_
  rintro e w2 ⟨rfl, hb2⟩
  go_wp2
  go_ret
  exact ⟨by first | rfl | (simp; omega), below_tr hb1 (below_tr hb2 (below_new _ _))⟩

/-! ### the list's cells -/
def c9 (q : Nat × Int × Nat) : List Value := .int .u64 (q.1 : Nat) :: .int .i64 q.2.1 :: d7 q.2.1 q.2.2
theorem mcs_get : ∀ (L : ML) (i j : Nat), i < L.length → j < 9 → (mcs L)[i * 9 + j]? = (c9 L[i]!)[j]?
  | q :: L, 0, j, _, hj => by
    show (c9 q ++ mcs L)[0 * 9 + j]? = _
    rw [Nat.zero_mul, Nat.zero_add, List.getElem?_append_left (show j < 9 from hj)]
    rfl
  | q :: L, i + 1, j, h, hj => by
    have := mcs_get L i j (by simpa using h) hj
    show (c9 q ++ mcs L)[(i + 1) * 9 + j]? = _
    rw [List.getElem?_append_right (show 9 ≤ (i + 1) * 9 + j by omega), show (i + 1) * 9 + j - (c9 q).length = i * 9 + j by show (i + 1) * 9 + j - 9 = _; omega, this]
    rfl
theorem own_cells {w : World} {base : Nat} {v : Value} {L : ML} (h : OwnM w base v L) : ∃ p cap, v = .slice p L.length cap ∧ ∀ i, i < L.length → ∃ g, p = some ⟨g, 0, none⟩ ∧ g < w.heap.size ∧ ∀ j u, (c9 L[i]!)[j]? = some u → w.cell? ⟨g, i * 9 + j, none⟩ = some u := by
  rcases h.2 with ⟨rfl, hz⟩ | ⟨g, cap, cur, rfl, hbase, hb, r1, r2, r3, r4⟩
  · exact ⟨none, 0, by rw [hz], fun i hi => by omega⟩
  · refine ⟨_, cap, rfl, fun i hi => ⟨g, rfl, block_lt hb, fun j u hu => ?_⟩⟩
    have hj : j < 9 := (List.getElem?_eq_some_iff.1 hu).1
    have hlt : i * 9 + j < L.length * 9 := by omega
    have h5 : (cur.toList.take (L.length * 9))[i * 9 + j]? = (mcs L)[i * 9 + j]? := by rw [r4]
    rw [List.getElem?_take_of_lt hlt] at h5
    rw [cell_of_row w g _ _ _ _ hb, ← Array.getElem?_toList, h5, mcs_get L i j hi hj, hu]

/-- Does the address lie in a found stretch? -/
def mt (va : Nat) (q : Nat × Int × Nat) : Bool := lowB va && decide (baseV va q.2.1 = q.1)
def fnd (va : Nat) (L : ML) : Nat → Bool
  | 0 => false
  | i + 1 => fnd va L i || mt va L[i]!
theorem fnd_iff (va : Nat) (L : ML) : ∀ i, i ≤ L.length → (fnd va L i = true ↔ ∃ j, j < i ∧ mt va L[j]! = true)
  | 0, _ => by simp [fnd]
  | i + 1, h => by
    unfold fnd
    rw [Bool.or_eq_true, fnd_iff va L i (by omega)]
    constructor
    · rintro (⟨j, h1, h2⟩ | h2)
      · exact ⟨j, by omega, h2⟩
      · exact ⟨i, by omega, h2⟩
    · rintro ⟨j, h1, h2⟩
      by_cases e : j = i
      · subst e; exact Or.inr h2
      · exact Or.inl ⟨j, by omega, h2⟩
theorem base_self {u : Nat} {l : Int} (hl : isLv l = true) (hu : u < 281474976710656) : baseV u l = u / 2 ^ lowK l * 2 ^ lowK l := by
  unfold baseV baseN
  rw [if_pos hl, Nat.mod_eq_of_lt hu]

/-- What an entry of the list is. -/
theorem entry_fact {S : Nat} {f : Nat → Nat} {root : Nat} {L : ML} (hG : GoodW 0 281474976710656 (fun u => (wk0 S f 0 root u).2) L) {i : Nat} (hi : i < L.length) :
    L[i]!.1 < 281474976710656 ∧ (wk0 S f 0 root L[i]!.1).2 = (0, L[i]!.2.1, L[i]!.2.2) ∧ isLv L[i]!.2.1 = true ∧ baseV L[i]!.1 L[i]!.2.1 = L[i]!.1 ∧ (0 < i → L[i - 1]!.1 < L[i]!.1) := by
  have hm : L[i]! ∈ L := by rw [getElem!_pos L i hi]; exact List.getElem_mem hi
  obtain ⟨-, q2, q3, q4⟩ := hG.a _ hm
  have hp := Nat.two_pow_pos (lowK L[i]!.2.1)
  have hlt : L[i]!.1 < 281474976710656 := by omega
  obtain ⟨-, -, -, -, hlv, -⟩ := wk0_leaf q4
  refine ⟨hlt, q4, hlv, ?_, fun h0 => ?_⟩
  · rw [base_self hlv hlt]
    have := Nat.div_add_mod L[i]!.1 (2 ^ lowK L[i]!.2.1)
    rw [q3, Nat.add_zero, Nat.mul_comm] at this
    exact this
  · rw [getElem!_pos L i hi, getElem!_pos L (i - 1) (by omega)]
    exact (List.pairwise_iff_getElem.1 hG.b) (i - 1) i (by omega) hi (by omega)
theorem mt_walk {S : Nat} {f : Nat → Nat} {root va : Nat} {q : Nat × Int × Nat} (h : (wk0 S f 0 root q.1).2 = (0, q.2.1, q.2.2)) (hm : mt va q = true) : (wk0 S f 0 root va).2 = (0, q.2.1, q.2.2) := by
  unfold mt at hm
  rw [Bool.and_eq_true] at hm
  have h1 : va < 281474976710656 := of_decide_eq_true hm.1
  have h2 := of_decide_eq_true hm.2
  obtain ⟨-, -, hu, -, hlv, -⟩ := wk0_leaf h
  rw [base_self hlv h1] at h2
  have hp := Nat.two_pow_pos (lowK q.2.1)
  have h3 : va / 2 ^ lowK q.2.1 = q.1 / 2 ^ lowK q.2.1 := by rw [← h2, Nat.mul_div_cancel _ hp]
  rw [stretch_same h h3 h1, h]
theorem found_iff {S : Nat} {f : Nat → Nat} {root va : Nat} {L : ML} (hG : GoodW 0 281474976710656 (fun u => (wk0 S f 0 root u).2) L) : fnd va L L.length = decide ((wk0 S f 0 root va).2.1 = 0) := by
  rw [Bool.eq_iff_iff, fnd_iff va L _ (Nat.le_refl _), decide_eq_true_eq]
  constructor
  · rintro ⟨j, hj, hm⟩
    rw [mt_walk (entry_fact hG hj).2.1 hm]
  · intro h0
    generalize hr : (wk0 S f 0 root va).2 = r at h0
    obtain ⟨k, l, x⟩ := r
    simp only at h0
    subst h0
    obtain ⟨-, -, hu, -, hlv, -⟩ := wk0_leaf hr
    have hm := hG.c va l x (Nat.zero_le _) hu hr
    obtain ⟨j, hj, e⟩ := List.getElem_of_mem hm
    refine ⟨j, hj, ?_⟩
    rw [getElem!_pos L j hj, e]
    unfold mt
    rw [Bool.and_eq_true]
    exact ⟨decide_eq_true hu, decide_eq_true (base_self hlv hu)⟩
end Go.Proofs.YtjhplcpaaghleaaDoor.walkAll
