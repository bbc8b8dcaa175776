/- Plain facts on two entries that clash. -/
import Derived.Test.YthebhgllnjgjhaaDoorTlbCl1
import Derived.Test.YthebhgllnjgjhaaDoorTlbU
namespace Go.Proofs.YthebhgllnjgjhaaDoor
open Go.RowKit

theorem right_self {x : En} (h : rightE x = true) : mB x x.aid x.va = true := by
  unfold rightE at h
  simp only [Bool.and_eq_true] at h
  exact h.2.2.2
theorem right_base {x : En} (h : rightE x = true) : isLv x.lv = true ∧ x.va < 281474976710656 ∧ x.va / 2 ^ lowK x.lv * 2 ^ lowK x.lv = x.va := by
  have ho : outE x = false := by
    cases h1 : outE x
    · rfl
    · rw [outE_no h1] at h; cases h
  obtain ⟨hl, h2⟩ := outE_yes ho
  rw [h] at h2
  have h3 : baseV x.va x.lv = x.va := by
    have := h2.symm
    rw [Bool.and_eq_true] at this
    exact of_decide_eq_true this.1
  unfold outE at ho
  simp only [Bool.or_eq_false_iff, decide_eq_false_iff_not] at ho
  refine ⟨hl, by omega, ?_⟩
  unfold baseV at h3
  rw [if_pos hl] at h3
  unfold baseN at h3
  rwa [Nat.mod_eq_of_lt (by omega)] at h3
theorem base_of {x : En} {v : Nat} (hl : isLv x.lv = true) (hv : v < 281474976710656) (ha : v / 2 ^ lowK x.lv * 2 ^ lowK x.lv = v) : baseV v x.lv = v := by
  unfold baseV
  rw [if_pos hl]
  unfold baseN
  rwa [Nat.mod_eq_of_lt hv]
theorem coarse {v j k : Nat} (h : j ≤ k) (ha : v / 2 ^ k * 2 ^ k = v) : v / 2 ^ j * 2 ^ j = v := by
  have hd : 2 ^ j ∣ v := by
    rw [← ha]
    exact Nat.dvd_trans (Nat.pow_dvd_pow 2 h) (Nat.dvd_mul_left _ _)
  exact Nat.div_mul_cancel hd
theorem deep_le {x y : En} (hx : rightE x = true) (hy : rightE y = true) (h : y.lv ≤ x.lv) (hm : mB x y.aid y.va = true) : mB y x.aid x.va = true := by
  obtain ⟨lx, vx, bx⟩ := right_base hx
  obtain ⟨ly, vy, bY⟩ := right_base hy
  have hk : lowK x.lv ≤ lowK y.lv := by
    have := (lowK_eq lx).2.2.2
    have := (lowK_eq ly).2.2.2
    omega
  unfold mB baseB at hm
  simp only [Bool.and_eq_true, decide_eq_true_eq] at hm
  have e1 : x.va = y.va := by
    rw [← hm.2.2.2]
    exact base_of lx vy (coarse hk bY)
  have hs := right_self hy
  rw [e1, hm.1]
  exact hs
/-- The one of the deeper level. -/
def deepE (x y : En) : En := if x.lv < y.lv then y else x
theorem deep_meet {x y : En} (hx : rightE x = true) (hy : rightE y = true) : (mB x (deepE x y).aid (deepE x y).va && mB y (deepE x y).aid (deepE x y).va) = mtB x y := by
  unfold deepE mtB
  by_cases h : x.lv < y.lv
  · rw [if_pos h, right_self hy, Bool.and_true]
    cases h1 : mB y x.aid x.va
    · rw [Bool.or_false]
    · rw [deep_le hy hx (by omega) h1]; rfl
  · rw [if_neg h, right_self hx, Bool.true_and]
    cases h1 : mB x y.aid y.va
    · rw [Bool.false_or]
    · rw [deep_le hx hy (by omega) h1]; rfl

theorem cnt_two {p : En → Bool} {l : List En} {i j : Nat} (hij : i < j) (hj : j < l.length) (h1 : p (gE l i) = true) (h2 : p (gE l j) = true) : 2 ≤ cntE p l := by
  unfold cntE
  rw [← List.take_append_drop j l, List.filter_append, List.length_append]
  have m1 : (gE l i) ∈ (l.take j).filter p := by
    rw [List.mem_filter]
    refine ⟨?_, h1⟩
    rw [gE_pos l i (by omega)]
    exact List.mem_take_iff_getElem.2 ⟨i, by omega, rfl⟩
  have m2 : (gE l j) ∈ (l.drop j).filter p := by
    rw [List.mem_filter]
    refine ⟨?_, h2⟩
    rw [gE_pos l j hj]
    exact List.mem_drop_iff_getElem.2 ⟨0, by omega, by simp⟩
  have := List.length_pos_of_mem m1
  have := List.length_pos_of_mem m2
  omega

theorem ClR.first {l : List En} {a b : En} {c : Bool} {i j : Nat} (h : ClR l a b c) (hij : i < j) (hj : j < l.length) (hm : mtB (gE l i) (gE l j) = true) (h1 : NoC l i) (h2 : NoR l i j) : a = (gE l i) ∧ b = (gE l j) := by
  rcases h with ⟨-, -, -, hn⟩ | ⟨-, i', j', q1, q2, ea, eb, qm, q3, q4⟩
  · rw [hn i j (by omega) hij hj] at hm; cases hm
  · have e1 : i = i' := by
      rcases Nat.lt_trichotomy i i' with h | h | h
      · rw [q3 i j h hij hj] at hm; cases hm
      · exact h
      · rw [h1 i' j' h q1 q2] at qm; cases qm
    subst e1
    have e2 : j = j' := by
      rcases Nat.lt_trichotomy j j' with h | h | h
      · rw [q4 j hij h] at hm; cases hm
      · exact h
      · rw [h2 j' q1 h] at qm; cases qm
    subst e2
    exact ⟨ea, eb⟩
/-- Whether two clash ahead of the pair (i, j). -/
def Fd (l : List En) (f : Bool) (i j : Nat) : Prop := (f = false ∧ NoC l i ∧ NoR l i j) ∨ (f = true ∧ ∃ i' j', i' < j' ∧ j' < l.length ∧ mtB (gE l i') (gE l j') = true)
theorem Fd.zero (l : List En) : Fd l false 0 (0 + 1) := Or.inl ⟨rfl, NoC.zero l, NoR.zero l 0⟩
theorem Fd.no {l : List En} {f : Bool} {i j : Nat} (h : Fd l f i j) (hm : mtB (gE l i) (gE l j) = false) : Fd l f i (j + 1) := by
  rcases h with ⟨h1, h2, h3⟩ | h
  · exact Or.inl ⟨h1, h2, h3.succ hm⟩
  · exact Or.inr h
theorem Fd.yes {l : List En} {i j : Nat} (hij : i < j) (hj : j < l.length) (hm : mtB (gE l i) (gE l j) = true) : Fd l true i (j + 1) := Or.inr ⟨rfl, i, j, hij, hj, hm⟩
theorem Fd.row {l : List En} {f : Bool} {i : Nat} (h : Fd l f i l.length) : Fd l f (i + 1) (i + 1 + 1) := by
  rcases h with ⟨h1, h2, h3⟩ | h
  · exact Or.inl ⟨h1, h2.succ h3, NoR.zero l _⟩
  · exact Or.inr h
theorem Fd.end {l : List En} {f : Bool} {a b : En} {c : Bool} (h : Fd l f l.length (l.length + 1)) (hc : ClR l a b c) : c = f := by
  rcases h with ⟨h1, h2, -⟩ | ⟨h1, i', j', q1, q2, qm⟩
  · rcases hc with ⟨e, -⟩ | ⟨e, i, j, p1, p2, -, -, pm, -⟩
    · rw [e, h1]
    · rw [h2 i j (by omega) p1 p2] at pm; cases pm
  · rcases hc with ⟨e, -, -, hn⟩ | ⟨e, -⟩
    · rw [hn i' j' (by omega) q1 q2] at qm; cases qm
    · rw [e, h1]

theorem fillL_mem {l : List En} {m : Int} {e x : En} (h : x ∈ fillL l m e) : x ∈ l ∨ (x = e ∧ rightE e = true) := by
  unfold fillL at h
  split at h
  · rename_i hr
    split at h
    · exact Or.inl h
    · split at h
      · rcases List.mem_append.1 (List.mem_of_mem_eraseIdx h) with h | h
        · exact Or.inl h
        · exact Or.inr ⟨List.mem_singleton.1 h, hr⟩
      · rcases List.mem_append.1 h with h | h
        · exact Or.inl h
        · exact Or.inr ⟨List.mem_singleton.1 h, hr⟩
  · exact Or.inl h
theorem fills_right (l : List En) : ∀ i, i ≤ l.length → ∀ x ∈ fillsI l i, rightE x = true
  | 0, _, x, h => by rw [fills_zero] at h; cases h
  | i + 1, hi, x, h => by
    rw [fills_succ (by omega)] at h
    rcases fillL_mem h with h1 | ⟨rfl, h1⟩
    · exact fills_right l i (by omega) x h1
    · exact h1

set_option maxHeartbeats 1000000 in
theorem list2_c {w : World} {X : Nat → Prop} {t : Nat} {most : Int} {l : List En} (h : Buf w X t most l) (hn : l.length ≤ 1000) :
    Calls Tryd.prog 12 #[.pointer (some ⟨t, 0, none⟩)] w fun r w' => ∃ ad cap, r = .returned (.slice ad l.length cap) ∧ RdA w' ad l ∧ l.length ≤ cap ∧ Below w.heap.size w w' := by
  have hcl : ∀ (ad : Option Addr) (cap : Nat), (ad = none ∨ ∃ g o, ad = some ⟨g, o, none⟩) → RdA w ad l → Calls Tryd.prog 30 #[.slice ad l.length cap] w fun r w' => ∃ ad' cap', r = .returned (.slice ad' l.length cap') ∧ RdA w' ad' l ∧ l.length ≤ cap' ∧ Below w.heap.size w w' := fun ad cap hf hr => by
    have HR := Hid.mk hr
    clear hr
    rcases hf with rfl | ⟨b, o, rfl⟩
    · have h0 : l.length = 0 := by
        rcases Nat.eq_zero_or_pos l.length with h | h
        · exact h
        · obtain ⟨g, o, e, -⟩ := HR.out 0 h; cases e
      refine (clone_c l none cap (Or.inl rfl) hn w HR.out).mono ?_
      rintro r w' ⟨ad', cap', rfl, h1, -, h2⟩
      exact ⟨ad', cap', rfl, h1, by omega, h2⟩
    · by_cases h0 : l.length = 0
      · refine (clone_c l _ cap (Or.inr ⟨b, o, rfl⟩) hn w HR.out).mono ?_
        rintro r w' ⟨ad', cap', rfl, h1, -, h2⟩
        exact ⟨ad', cap', rfl, h1, by omega, h2⟩
      · have hen : ∀ (w : World) (n : Nat), (binOp .eql 40 (.slice (some ⟨b, o, none⟩) n cap) (.slice none 0 0)).run Tryd.prog w = .ok (.bool false) w := fun _ _ => rfl
        have hB := fun w' (hgr : World.grownBy (w.alloc (.cells #[] 33)) w' (Value.slice (some ⟨w.heap.size, 0, none⟩) 0 0).ownBlock) => (below_new w (.cells #[] 33)).grown hgr (by simp) (fun q hq => by cases hq; exact Nat.le_refl _)
        clear h
        go_enter Tryd.func30, Tryd.ntmps30
        go_wp2_with (at_builtin; refine wpList_appE etyT _ rfl _ _ rfl w.heap.size _ [] rfl (own_new w _) l ⟨b, o, none⟩ cap rfl (fun j u hu => cell_later (below_new _ _) (HR.out.cells j u hu)) (by omega) (by simp; omega) (by simp) _ rfl ?_; intro g cap' w2 hown hgr hat hlt; have HO := Hid.mk hown; clear hown)
        go_ret
        obtain ⟨ad', c', e, h1, h2⟩ := own_rd HO.out
        have hcp : l.length ≤ cap' := by
          rcases HO.out.2 with ⟨e, -⟩ | ⟨g', c, cur, e, -, -, q, -⟩
          · cases e
          · simp only [Value.slice.injEq] at e
            simp at q
            omega
        simp only [List.nil_append, List.length_nil, Nat.zero_add] at e h1
        cases e
        exact ⟨_, _, rfl, h1, hcp, hB _ hgr⟩
  obtain ⟨v, h⟩ := h
  obtain ⟨ad, cap, rfl, hf, hr⟩ := h.form
  obtain ⟨-, c1⟩ := row2c h.row
  have hc := hcl ad cap hf hr
  clear h hf hr hcl
  go_enter Tryd.func12, Tryd.ntmps12
  go_wp2_with fail
  refine hc.mono ?_
  rintro e w1 ⟨ad', cap', rfl, hr, hb, hB⟩
  clear hc c1
  go_wp2
  go_ret
  exact ⟨_, _, rfl, hr, hb, hB⟩

end Go.Proofs.YthebhgllnjgjhaaDoor
