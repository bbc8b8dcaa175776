/- pdqsort at words: what stands between its rounds. -/
import Derived.Test.YtiedlkhbbnjkbaaSortChoose
namespace Go.Proofs.Ytiedlkhbbnjkbaa
open Go.RowKit
open Go.Sort (swp ltInt PermIn SortedIn)

/-- Whatever sorts [a', b') of e sorts [a, b) of d. -/
structure St (a b : Nat) (d : Array Int) (a' b' : Nat) (e : Array Int) : Prop where
  le : a' ≤ b'
  hi : b' ≤ d.size
  sz : e.size = d.size
  bel : Sort.Below ltInt a' b' e
  fin : ∀ R, PermIn a' b' e R → SortedIn ltInt a' b' R → PermIn a b d R ∧ SortedIn ltInt a b R

theorem lt_f {x y : Int} : ltInt x y = false ↔ y ≤ x := by simp [ltInt]
theorem lt_t {x y : Int} : ltInt x y = true ↔ x < y := by simp [ltInt]

theorem St.start {a b : Nat} {d : Array Int} (hab : a ≤ b) (hb : b ≤ d.size) (hB : Sort.Below ltInt a b d) : St a b d a b d := ⟨hab, hb, rfl, hB, fun _ h1 h2 => ⟨h1, h2⟩⟩
theorem St.perm {a b a' b' : Nat} {d e e1 : Array Int} (h : St a b d a' b' e) (hp : PermIn a' b' e e1) : St a b d a' b' e1 :=
  ⟨h.le, h.hi, hp.1.trans h.sz, h.bel.perm (by rw [h.sz]; exact h.hi) hp, fun R h1 h2 => h.fin R (Sort.permIn_trans _ _ _ _ _ hp h1) h2⟩

theorem EqPost.bel {a b m : Nat} {v : Int} {d e : Array Int} (h : EqPost a b v d e m) : Sort.Below ltInt m b e := by
  obtain ⟨h1, h2, hp, hlo, hhi⟩ := h
  refine Or.inr fun i q1 q2 => ?_
  have e1 := lt_f.1 (hlo (m - 1) (by omega) (by omega))
  have e2 := lt_t.1 (hhi i q1 q2)
  exact lt_f.2 (by omega)

theorem St.eq {a b a' b' m : Nat} {d e e1 : Array Int} {v : Int} (h : St a b d a' b' e) (hp : EqPost a' b' v e e1 m) (ha : 0 < a') (hv : ltInt e[a' - 1]! v = false) : St a b d m b' e1 := by
  have hB := hp.bel
  obtain ⟨h1, h2, hperm, hlo, hhi⟩ := hp
  have hb' : b' ≤ e.size := by rw [h.sz]; exact h.hi
  have hge : ∀ i, a' ≤ i → i < b' → v ≤ e1[i]! := by
    refine Sort.permIn_all e e1 a' b' (fun x => v ≤ x) hb' hperm fun i q1 q2 => ?_
    rcases h.bel with h0 | hB0
    · omega
    · have := lt_f.1 (hB0 i q1 q2)
      have := lt_f.1 hv
      omega
  refine ⟨h2, h.hi, hperm.1.trans h.sz, hB, fun R hR hs => h.fin R ?_ ?_⟩
  · exact Sort.permIn_trans _ _ _ a' b' hperm (Sort.permIn_mono _ _ m b' a' b' (by omega) (Nat.le_refl _) (by rw [hperm.1]; exact hb') hR)
  · have hgt := Sort.permIn_all e1 R m b' (fun x => v < x) (by rw [hperm.1]; exact hb') hR (fun k q1 q2 => lt_t.1 (hhi k q1 q2))
    have hle : ∀ i, a' ≤ i → i < m → R[i]! = v := fun i q1 q2 => by
      rw [hR.2.1 i (Or.inl q2)]
      have e1 := lt_f.1 (hlo i q1 q2)
      have e2 := hge i q1 (by omega)
      omega
    intro i j q1 q2 q3
    by_cases c : m ≤ i
    · exact hs i j c q2 q3
    · rw [hle i q1 (by omega)]
      by_cases c2 : j < m
      · rw [hle j (by omega) c2]; exact lt_f.2 (Int.le_refl _)
      · have := hgt j (by omega) q3
        exact lt_f.2 (by omega)

theorem PaPost.belL {a b m : Nat} {d e : Array Int} (h : PaPost a b d e m) (hb : b ≤ d.size) (hB : Sort.Below ltInt a b d) : Sort.Below ltInt a m e := (hB.perm hb h.2.2.1).mono (by have := h.2.1; omega)
theorem PaPost.belR {a b m : Nat} {d e : Array Int} (h : PaPost a b d e m) : Sort.Below ltInt (m + 1) b e := Or.inr fun i q1 q2 => h.2.2.2.2 i (by omega) q2

theorem St.left {a b a' b' m : Nat} {d e e1 L : Array Int} (h : St a b d a' b' e) (hp : PaPost a' b' e e1 m) (hL : PermIn a' m e1 L) (hsL : SortedIn ltInt a' m L) : St a b d (m + 1) b' L := by
  obtain ⟨h1, h2, hperm, hlo, hhi⟩ := hp
  have hb' : b' ≤ e.size := by rw [h.sz]; exact h.hi
  have hb1 : b' ≤ e1.size := by rw [hperm.1]; exact hb'
  have hbL : b' ≤ L.size := by rw [hL.1]; exact hb1
  have eL : ∀ i, m ≤ i → L[i]! = e1[i]! := fun i hi => hL.2.1 i (Or.inr hi)
  have loL := Sort.permIn_all e1 L a' m (fun x => x < e1[m]!) (by omega) hL (fun k q1 q2 => lt_t.1 (hlo k q1 q2))
  refine ⟨by omega, h.hi, (hL.1.trans hperm.1).trans h.sz, Or.inr fun i q1 q2 => by rw [Nat.add_sub_cancel, eL i (by omega), eL m (Nat.le_refl _)]; exact hhi i (by omega) q2, fun R hR hs => h.fin R ?_ ?_⟩
  · exact Sort.permIn_trans _ _ _ a' b' hperm (Sort.permIn_trans _ _ _ a' b' (Sort.permIn_mono _ _ a' m a' b' (Nat.le_refl _) (by omega) hb1 hL) (Sort.permIn_mono _ _ (m + 1) b' a' b' (by omega) (Nat.le_refl _) hbL hR))
  · have eR : ∀ i, i ≤ m → R[i]! = L[i]! := fun i hi => hR.2.1 i (Or.inl (by omega))
    have hiR := Sort.permIn_all L R (m + 1) b' (fun x => e1[m]! ≤ x) hbL hR (fun k q1 q2 => by rw [eL k (by omega)]; exact lt_f.1 (hhi k (by omega) q2))
    intro i j q1 q2 q3
    refine lt_f.2 ?_
    by_cases c : j < m
    · rw [eR i (by omega), eR j (by omega)]; exact lt_f.1 (hsL i j q1 q2 c)
    · by_cases c1 : m < i
      · exact lt_f.1 (hs i j (by omega) q2 q3)
      · have ei : R[i]! ≤ e1[m]! := by
          rw [eR i (by omega)]
          by_cases c2 : i = m
          · rw [c2, eL m (Nat.le_refl _)]; exact Int.le_refl _
          · exact Int.le_of_lt (loL i q1 (by omega))
        by_cases c3 : j = m
        · have : R[j]! = e1[m]! := by rw [c3, eR m (Nat.le_refl _), eL m (Nat.le_refl _)]
          omega
        · have := hiR j (by omega) q3
          omega

theorem St.right {a b a' b' m : Nat} {d e e1 L : Array Int} (h : St a b d a' b' e) (hp : PaPost a' b' e e1 m) (hL : PermIn (m + 1) b' e1 L) (hsL : SortedIn ltInt (m + 1) b' L) : St a b d a' m L := by
  have hB := hp.belL (by rw [h.sz]; exact h.hi) h.bel
  obtain ⟨h1, h2, hperm, hlo, hhi⟩ := hp
  have hb' : b' ≤ e.size := by rw [h.sz]; exact h.hi
  have hb1 : b' ≤ e1.size := by rw [hperm.1]; exact hb'
  have hbL : b' ≤ L.size := by rw [hL.1]; exact hb1
  have eL : ∀ i, i ≤ m → L[i]! = e1[i]! := fun i hi => hL.2.1 i (Or.inl (by omega))
  have hiL := Sort.permIn_all e1 L (m + 1) b' (fun x => e1[m]! ≤ x) hb1 hL (fun k q1 q2 => lt_f.1 (hhi k (by omega) q2))
  have h3 := h.hi
  refine ⟨h1, by omega, (hL.1.trans hperm.1).trans h.sz, ?_, fun R hR hs => h.fin R ?_ ?_⟩
  · rcases hB with h0 | hB
    · exact Or.inl h0
    · exact Or.inr fun i q1 q2 => by rw [eL i (by omega), eL (a' - 1) (by omega)]; exact hB i q1 q2
  · exact Sort.permIn_trans _ _ _ a' b' hperm (Sort.permIn_trans _ _ _ a' b' (Sort.permIn_mono _ _ (m + 1) b' a' b' (by omega) (Nat.le_refl _) hb1 hL) (Sort.permIn_mono _ _ a' m a' b' (Nat.le_refl _) (by omega) hbL hR))
  · have eR : ∀ i, m ≤ i → R[i]! = L[i]! := fun i hi => hR.2.1 i (Or.inr hi)
    have loR := Sort.permIn_all L R a' m (fun x => x < e1[m]!) (by omega) hR (fun k q1 q2 => by rw [eL k (by omega)]; exact lt_t.1 (hlo k q1 q2))
    intro i j q1 q2 q3
    refine lt_f.2 ?_
    by_cases c : j < m
    · exact lt_f.1 (hs i j q1 q2 c)
    · by_cases c1 : m < i
      · rw [eR i (by omega), eR j (by omega)]; exact lt_f.1 (hsL i j (by omega) q2 q3)
      · have ei : R[i]! ≤ e1[m]! := by
          by_cases c2 : i = m
          · rw [c2, eR m (Nat.le_refl _), eL m (Nat.le_refl _)]; exact Int.le_refl _
          · exact Int.le_of_lt (loR i q1 (by omega))
        by_cases c3 : j = m
        · have : R[j]! = e1[m]! := by rw [c3, eR m (Nat.le_refl _), eL m (Nat.le_refl _)]
          omega
        · have h5 := hiL j (by omega) q3
          rw [← eR j (by omega)] at h5
          omega
end Go.Proofs.Ytiedlkhbbnjkbaa
