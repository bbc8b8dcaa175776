/- The two partitions at words. -/
import Derived.Test.YtiedlkhbbnjkbaaSortHeap
import Derived.Deep.CutBlock
import Derived.Deep.DeepCutAuto
namespace Go.Proofs.Ytiedlkhbbnjkbaa
open Go.RowKit
open Go.Sort (swp ltInt PermIn SortedIn)

/-- What the scans of a partition keep: behind a up to i all are p, from behind j on none is. -/
structure PInv (p : Int → Bool) (v : Int) (a b : Nat) (d e : Array Int) (i j : Nat) : Prop where
  pm : PermIn a b d e
  va : e[a]! = v
  lo : ∀ k, a < k → k < i → p e[k]! = true
  hi : ∀ k, j < k → k < b → p e[k]! = false
  ai : a < i
  ij : i ≤ j + 1
  jb : j < b
  aj : a ≤ j
  bs : b ≤ d.size

section
variable {p : Int → Bool} {v : Int} {a b : Nat} {d e : Array Int} {i j : Nat}
theorem PInv.up (h : PInv p v a b d e i j) (hij : i ≤ j) (hp : p e[i]! = true) : PInv p v a b d e (i + 1) j :=
  ⟨h.pm, h.va, fun k h1 h2 => by
    by_cases c : k = i
    · rw [c]; exact hp
    · exact h.lo k h1 (by omega), h.hi, by have := h.ai; omega, by omega, h.jb, h.aj, h.bs⟩
theorem PInv.down (h : PInv p v a b d e i j) (hij : i ≤ j) (hp : p e[j]! = false) : PInv p v a b d e i (j - 1) :=
  ⟨h.pm, h.va, h.lo, fun k h1 h2 => by
    by_cases c : k = j
    · rw [c]; exact hp
    · exact h.hi k (by omega) h2, h.ai, by have := h.ai; omega, by have := h.jb; omega, by have := h.ai; omega, h.bs⟩
theorem PInv.swap (h : PInv p v a b d e i j) (hij : i ≤ j) (hpi : p e[i]! = false) (hpj : p e[j]! = true) : i < j ∧ PInv p v a b d (swp e i j) (i + 1) (j - 1) := by
  have hne : i ≠ j := fun c => by rw [c, hpj] at hpi; cases hpi
  have hes : e.size = d.size := h.pm.1
  have ha := h.ai
  have hb := h.jb
  have hbs := h.bs
  refine ⟨by omega, Sort.permIn_trans _ _ _ _ _ h.pm (Sort.swp_permIn _ _ _ _ _ (by omega) (by omega) (by omega) (by omega) (by omega)), ?_, fun k h1 h2 => ?_, fun k h1 h2 => ?_, by omega, by omega, by omega, by omega, h.bs⟩
  · rw [Sort.swp_other _ _ _ _ (by omega) (by omega)]; exact h.va
  · by_cases c : k = i
    · rw [c, Sort.swp_left _ _ _ (by omega) hne]; exact hpj
    · rw [Sort.swp_other _ _ _ _ c (by omega)]; exact h.lo k h1 (by omega)
  · by_cases c : k = j
    · rw [c, Sort.swp_right _ _ _ (by omega)]; exact hpi
    · rw [Sort.swp_other _ _ _ _ (by omega) c]; exact h.hi k (by omega) h2
end

theorem PInv.start {p : Int → Bool} {a b pv : Nat} {d : Array Int} (h1 : a ≤ pv) (h2 : pv < b) (h3 : b ≤ d.size) : PInv p d[pv]! a b d (swp d a pv) (a + 1) (b - 1) := by
  refine ⟨Sort.swp_permIn _ _ _ _ _ (by omega) (by omega) h1 h2 h3, ?_, fun k q1 q2 => by omega, fun k q1 q2 => by omega, by omega, by omega, by omega, by omega, h3⟩
  by_cases c : a = pv
  · subst c; rw [Sort.swp_right _ _ _ (by omega)]
  · rw [Sort.swp_left _ _ _ (by omega) c]

/-- What partitionEqual leaves. -/
def EqPost (a b : Nat) (v : Int) (d e : Array Int) (m : Nat) : Prop :=
  a < m ∧ m ≤ b ∧ PermIn a b d e ∧ (∀ k, a ≤ k → k < m → ltInt v e[k]! = false) ∧ ∀ k, m ≤ k → k < b → ltInt v e[k]! = true

theorem PInv.eqEnd {v : Int} {a b : Nat} {d e : Array Int} {i j : Nat} (h : PInv (fun x => !ltInt v x) v a b d e i j) (hij : ¬ i ≤ j) : EqPost a b v d e i := by
  have h1 := h.ij
  have h2 := h.jb
  refine ⟨h.ai, by omega, h.pm, fun k q1 q2 => ?_, fun k q1 q2 => ?_⟩
  · by_cases c : k = a
    · rw [c, h.va]; simp [ltInt]
    · have := h.lo k (by omega) q2
      simpa using this
  · have := h.hi k (by omega) q2
    simpa using this

/-- What partition leaves. -/
def PaPost (a b : Nat) (d e : Array Int) (m : Nat) : Prop :=
  a ≤ m ∧ m < b ∧ PermIn a b d e ∧ (∀ k, a ≤ k → k < m → ltInt e[k]! e[m]! = true) ∧ ∀ k, m < k → k < b → ltInt e[k]! e[m]! = false

theorem PInv.paEnd {v : Int} {a b : Nat} {d e : Array Int} {i j : Nat} (h : PInv (fun x => ltInt x v) v a b d e i j) (hij : ¬ i ≤ j) : PaPost a b d (swp e j a) j := by
  have h1 := h.ij
  have h2 := h.jb
  have h3 := h.aj
  have h4 := h.bs
  have hes : e.size = d.size := h.pm.1
  have hj : (swp e j a)[j]! = v := by
    by_cases c : j = a
    · subst c; rw [Sort.swp_right _ _ _ (by omega)]; exact h.va
    · rw [Sort.swp_left _ _ _ (by omega) c]; exact h.va
  refine ⟨h3, h2, Sort.permIn_trans _ _ _ _ _ h.pm (Sort.swp_permIn _ _ _ _ _ (by omega) (by omega) (by omega) (by omega) (by omega)), fun k q1 q2 => ?_, fun k q1 q2 => ?_⟩
  · rw [hj]
    by_cases c : k = a
    · rw [c, Sort.swp_right _ _ _ (by omega)]
      exact h.lo j (by omega) (by omega)
    · rw [Sort.swp_other _ _ _ _ (by omega) c]
      exact h.lo k (by omega) (by omega)
  · rw [hj, Sort.swp_other _ _ _ _ (by omega) (by omega)]
    exact h.hi k q1 q2

set_option maxHeartbeats 8000000 in
theorem parteq_c {w : World} {g : Nat} {d : Array Int} (cap a b pv : Nat) (h : Rw w g d) (hg : g < w.heap.size) (h1 : a ≤ pv) (h2 : pv < b) (h3 : b ≤ d.size) (hs : d.size < 4611686018427387904) :
    Calls Try.prog 52 #[.slice (some ⟨g, 0, none⟩) d.size cap, .int .i64 a, .int .i64 b, .int .i64 pv] w fun r w' => ∃ (m : Nat) (e : Array Int), r = .returned (.int .i64 m) ∧ EqPost a b d[pv]! d e m ∧ To g w e w' := by
  have HR : Hid (To g w d w) := To.refl h hg
  have HV0 := Hid.mk (PInv.start (p := fun x => !ltInt d[pv]! x) h1 h2 h3)
  have bad : (a : Int) < d.size := by omega
  have bpd : (pv : Int) < d.size := by omega
  obtain ⟨f1, f2, f3, f4, z5, f5⟩ := h.facts (i := a) (j := pv) (by omega) (by omega)
  obtain ⟨z6, f6⟩ := h.fact6 a (j := pv) (by omega) (.int .u64 d[pv]!)
  have HTs : Hid (To g w (swp d a pv) (((w.setCell ⟨g, a, none⟩ (.int .u64 d[pv]!)).setCell ⟨g, pv, none⟩ (.int .u64 d[a]!)).drew)) := (HR.out.trans (h.swap hg (i := a) (j := pv) (by omega) (by omega))).drew
  clear h HR
  generalize d[pv]! = v at *
  generalize d[a]! = u at *
  go_enter Try.func52, Try.ntmps52
  go_wp2
  go_region
  clear f1 f2 f3 f4 f5 f6
  generalize ((w.setCell ⟨g, a, none⟩ (.int .u64 v)).setCell ⟨g, pv, none⟩ (.int .u64 u)).drew = w0 at *
  go_wp2
  go_loopw [9, 10] (fun s t wr => ∃ (i j : Nat) (e : Array Int), s = .int .i64 i ∧ t = .int .i64 j ∧ PInv (fun x => !ltInt v x) v a b d e i j ∧ To g w e wr) (fun s t _ => (intOf t - intOf s + 2).toNat)
  case atStart => exact ⟨a + 1, b - 1, swp d a pv, by first | rfl | go_num, by first | rfl | (congr 1; omega) | go_num, HV0.out, HTs.out⟩
  case round =>
    clear HV0 HTs
    obtain ⟨i0, j0, e, rfl, rfl, hV, hT⟩ := hrel
    have HV := Hid.mk hV
    have HT := Hid.mk hT
    clear hV hT
    go_wp2
    go_loopw [9] (fun s wx => ∃ i : Nat, s = .int .i64 i ∧ i0 ≤ i ∧ PInv (fun x => !ltInt v x) v a b d e i j0 ∧ To g w e wx) (fun s _ => ((j0 : Int) + 2 - intOf s).toNat)
    case atStart => exact ⟨i0, rfl, Nat.le_refl _, HV.out, HT.out⟩
    case round =>
      clear HV HT
      obtain ⟨i, rfl, hii, hV, hT⟩ := hrel
      have HV := Hid.mk hV
      have HT := Hid.mk hT
      have hv1 := hV.ai
      have hv2 := hV.ij
      have hv3 := hV.jb
      have hv4 : e.size = d.size := hV.pm.1
      clear hV hT
      go_upto_region 3 with fail
      go_cut [43] from 29 to 45 (fun c wx => ∃ q : Bool, c = .bool q ∧ (q = true → i ≤ j0 ∧ (!ltInt v e[i]!) = true) ∧ (q = false → ¬ i ≤ j0 ∨ (!ltInt v e[i]!) = false) ∧ To g w e wx)
      case first =>
        by_cases hij : i ≤ j0
        · have d1 : decide ((i : Int) ≤ j0) = true := decide_eq_true (by omega)
          obtain ⟨f1, f2, _⟩ := HT.out.1.facts (i := i) (j := a) (by omega) (by omega)
          have hls := less_c v e[i]!
          rw [HV.out.va] at f2
          generalize hx : e[i]! = x at *
          have HX := Hid.mk hx
          have bi : (i : Int) < d.size := by omega
          clear hx
          go_quiet ((refine Calls.quiet_of_same ((hls _).mono (fun e w1 hh => ⟨hh.1, hh.2.symm⟩))))
          have HTq := Hid.mk (HT.out.drewN nq)
          clear f1 f2 hls
          generalize wr.drewN nq = wq at *
          go_wp2_with fail
          go_meet
          refine ⟨_, rfl, fun h => ⟨hij, ?_⟩, fun h => Or.inr ?_, HTq.out⟩
          · simpa using h
          · simpa using h
        · have d1 : decide ((i : Int) ≤ j0) = false := decide_eq_false (by omega)
          go_quiet (fail)
          have HTq := Hid.mk (HT.out.drewN nq)
          generalize wr.drewN nq = wq at *
          go_wp2_with fail
          go_meet
          exact ⟨false, rfl, fun h => (by cases h), fun _ => Or.inl hij, HTq.out⟩
      case rest =>
        obtain ⟨q, rfl, hq1, hq2, hTc⟩ := hcut
        have HTc := Hid.mk hTc
        clear hTc
        cases q with
        | true =>
          have hq := hq1 rfl
          have HQ := Hid.mk hq
          have hql := hq.1
          clear hq1 hq2 hq
          go_wp2
          refine ⟨⟨i + 1, by first | rfl | go_num, by omega, HV.out.up HQ.out.1 HQ.out.2, HTc.out⟩, by first | (simp [intOf]; done) | (simp [intOf]; omega)⟩
        | false =>
          have HSi := Hid.mk (hq2 rfl)
          clear hq1 hq2
          go_wp2
          go_loopw [10] (fun s wx => ∃ j : Nat, s = .int .i64 j ∧ j ≤ j0 ∧ PInv (fun x => !ltInt v x) v a b d e i j ∧ To g w e wx) (fun s _ => (intOf s + 1).toNat)
          case atStart => exact ⟨j0, rfl, Nat.le_refl _, HV.out, HTc.out⟩
          case round =>
            clear HV HTc
            obtain ⟨j, rfl, hjj, hV, hT⟩ := hrel
            have HV := Hid.mk hV
            have HT := Hid.mk hT
            have hw1 := hV.ij
            have hw2 := hV.jb
            have hw3 := hV.aj
            clear hV hT
            go_upto_region 5 with fail
            go_cut [59] from 46 to 61 (fun c wx => ∃ q : Bool, c = .bool q ∧ (q = true → i ≤ j ∧ (!ltInt v e[j]!) = false) ∧ (q = false → ¬ i ≤ j ∨ (!ltInt v e[j]!) = true) ∧ To g w e wx)
            case first =>
              by_cases hij : i ≤ j
              · have d1 : decide ((i : Int) ≤ j) = true := decide_eq_true (by omega)
                obtain ⟨f1, f2, _⟩ := HT.out.1.facts (i := j) (j := a) (by omega) (by omega)
                have hls := less_c v e[j]!
                rw [HV.out.va] at f2
                generalize hx : e[j]! = x at *
                have HX := Hid.mk hx
                have bi : (j : Int) < d.size := by omega
                clear hx
                go_quiet ((refine Calls.quiet_of_same ((hls _).mono (fun e w1 hh => ⟨hh.1, hh.2.symm⟩))))
                have HTq := Hid.mk (HT.out.drewN nq)
                clear f1 f2 hls
                generalize wr.drewN nq = wq at *
                go_wp2_with fail
                go_meet
                refine ⟨_, rfl, fun h => ⟨hij, ?_⟩, fun h => Or.inr ?_, HTq.out⟩
                · simpa using h
                · simpa using h
              · have d1 : decide ((i : Int) ≤ j) = false := decide_eq_false (by omega)
                go_quiet (fail)
                have HTq := Hid.mk (HT.out.drewN nq)
                generalize wr.drewN nq = wq at *
                go_wp2_with fail
                go_meet
                exact ⟨false, rfl, fun h => (by cases h), fun _ => Or.inl hij, HTq.out⟩
            case rest =>
              obtain ⟨q, rfl, hq1, hq2, hTc⟩ := hcut
              have HTc := Hid.mk hTc
              clear hTc
              cases q with
              | true =>
                have hq := hq1 rfl
                have HQ := Hid.mk hq
                have hql := hq.1
                clear hq1 hq2 hq
                go_wp2
                refine ⟨⟨j - 1, by first | rfl | (congr 1; omega) | go_num, by omega, HV.out.down HQ.out.1 HQ.out.2, HTc.out⟩, by first | (simp [intOf]; done) | (simp [intOf]; omega)⟩
              | false =>
                have HSj := Hid.mk (hq2 rfl)
                clear hq1 hq2
                by_cases hij : i ≤ j
                · have d1 : decide ((j : Int) < i) = false := decide_eq_false (by omega)
                  have hpi : (fun x => !ltInt v x) e[i]! = false := by
                    rcases HSi.out with c | c
                    · exact absurd (Nat.le_trans hij hjj) c
                    · exact c
                  have hpj : (fun x => !ltInt v x) e[j]! = true := by
                    rcases HSj.out with c | c
                    · exact absurd hij c
                    · exact c
                  have HN := Hid.mk (HV.out.swap hij hpi hpj)
                  have hlt := HN.out.1
                  have bi : (i : Int) < d.size := by omega
                  have bj : (j : Int) < d.size := by omega
                  clear hpi hpj
                  obtain ⟨f1, f2, f3, f4, z5, f5⟩ := HTc.out.1.facts (i := i) (j := j) (by omega) (by omega)
                  obtain ⟨z6, f6⟩ := HTc.out.1.fact6 i (j := j) (by omega) (.int .u64 e[j]!)
                  have HTs : Hid (To g w (swp e i j) (((wc.setCell ⟨g, i, none⟩ (.int .u64 e[j]!)).setCell ⟨g, j, none⟩ (.int .u64 e[i]!)).drew)) := (HTc.out.trans (HTc.out.1.swap HTc.out.lt (i := i) (j := j) (by omega) (by omega))).drew
                  generalize e[i]! = x at f1 f2 f5 f6 HTs
                  generalize e[j]! = y at f1 f2 f5 f6 HTs
                  go_wp2
                  go_region
                  clear f1 f2 f3 f4 f5 f6
                  generalize ((wc.setCell ⟨g, i, none⟩ (.int .u64 y)).setCell ⟨g, j, none⟩ (.int .u64 x)).drew = wn at *
                  go_wp2
                  refine ⟨⟨i + 1, j - 1, swp e i j, by first | rfl | go_num, by first | rfl | (congr 1; omega) | go_num, HN.out.2, HTs.out⟩, by first | (simp [intOf]; done) | (simp [intOf]; omega)⟩
                · have d1 : decide ((j : Int) < i) = true := decide_eq_true (by omega)
                  have HE := Hid.mk (HV.out.eqEnd hij)
                  go_wp2
                  go_ret
                  exact ⟨i, e, rfl, HE.out, HTc.out⟩

set_option maxRecDepth 100000 in
set_option maxHeartbeats 16000000 in
theorem part_c {w : World} {g : Nat} {d : Array Int} (cap a b pv : Nat) (h : Rw w g d) (hg : g < w.heap.size) (h1 : a ≤ pv) (h2 : pv < b) (h3 : b ≤ d.size) (hs : d.size < 4611686018427387904) :
    Calls Try.prog 53 #[.slice (some ⟨g, 0, none⟩) d.size cap, .int .i64 a, .int .i64 b, .int .i64 pv] w fun r w' => ∃ (m : Nat) (e : Array Int) (al : Bool), r = .returned (.tuple #[.int .i64 m, .bool al]) ∧ PaPost a b d e m ∧ To g w e w' := by
  have HR : Hid (To g w d w) := To.refl h hg
  have hV0 := PInv.start (p := fun x => ltInt x d[pv]!) h1 h2 h3
  have bad : (a : Int) < d.size := by omega
  have bpd : (pv : Int) < d.size := by omega
  obtain ⟨f1, f2, f3, f4, z5, f5⟩ := h.facts (i := a) (j := pv) (by omega) (by omega)
  obtain ⟨z6, f6⟩ := h.fact6 a (j := pv) (by omega) (.int .u64 d[pv]!)
  have HTs : Hid (To g w (swp d a pv) (((w.setCell ⟨g, a, none⟩ (.int .u64 d[pv]!)).setCell ⟨g, pv, none⟩ (.int .u64 d[a]!)).drew)) := (HR.out.trans (h.swap hg (i := a) (j := pv) (by omega) (by omega))).drew
  clear h HR
  generalize d[pv]! = v at *
  generalize d[a]! = u at *
  obtain ⟨e, he⟩ : ∃ e, e = swp d a pv := ⟨_, rfl⟩
  obtain ⟨i0, hi0⟩ : ∃ i0, i0 = a + 1 := ⟨_, rfl⟩
  obtain ⟨j0, hj0⟩ : ∃ j0, j0 = b - 1 := ⟨_, rfl⟩
  rw [← he] at HTs
  rw [← he, ← hi0, ← hj0] at hV0
  have HV0 := Hid.mk hV0
  have ii0 : (a : Int) + 1 = (i0 : Int) := by omega
  have jj0 : (b : Int) - 1 = (j0 : Int) := by omega
  clear hV0 he hi0 hj0
  go_enter Try.func53, Try.ntmps53
  go_wp2
  go_region
  clear f1 f2 f3 f4 f5 f6
  generalize ((w.setCell ⟨g, a, none⟩ (.int .u64 v)).setCell ⟨g, pv, none⟩ (.int .u64 u)).drew = w0 at *
  go_wp2
  go_loopw [10] (fun s wx => ∃ i : Nat, s = .int .i64 i ∧ i0 ≤ i ∧ PInv (fun x => ltInt x v) v a b d e i j0 ∧ To g w e wx) (fun s _ => ((j0 : Int) + 2 - intOf s).toNat)
  case atStart => exact ⟨i0, by first | rfl | go_num, Nat.le_refl _, HV0.out, HTs.out⟩
  case round =>
    clear HV0 HTs
    obtain ⟨i, rfl, hii, hV, hT⟩ := hrel
    have HV := Hid.mk hV
    have HT := Hid.mk hT
    have hv1 := hV.ai
    have hv2 := hV.ij
    have hv3 := hV.jb
    have hv4 : e.size = d.size := hV.pm.1
    clear hV hT
    go_upto_region 3 with fail
    go_cut [43] from 30 to 45 (fun c wx => ∃ q : Bool, c = .bool q ∧ (q = true → i ≤ j0 ∧ (ltInt e[i]! v) = true) ∧ (q = false → ¬ i ≤ j0 ∨ (ltInt e[i]! v) = false) ∧ To g w e wx)
    case first =>
      by_cases hij : i ≤ j0
      · have d1 : decide ((i : Int) ≤ j0) = true := decide_eq_true (by omega)
        obtain ⟨f1, f2, _⟩ := HT.out.1.facts (i := i) (j := a) (by omega) (by omega)
        have hls := less_c e[i]! v
        rw [HV.out.va] at f2
        generalize hx : e[i]! = x at *
        have HX := Hid.mk hx
        have bi : (i : Int) < d.size := by omega
        clear hx
        go_quiet ((refine Calls.quiet_of_same ((hls _).mono (fun e w1 hh => ⟨hh.1, hh.2.symm⟩))))
        have HTq := Hid.mk (HT.out.drewN nq)
        clear f1 f2 hls
        generalize wr.drewN nq = wq at *
        go_wp2_with fail
        go_meet
        refine ⟨_, rfl, fun h => ⟨hij, ?_⟩, fun h => Or.inr ?_, HTq.out⟩
        · simpa using h
        · simpa using h
      · have d1 : decide ((i : Int) ≤ j0) = false := decide_eq_false (by omega)
        go_quiet (fail)
        have HTq := Hid.mk (HT.out.drewN nq)
        generalize wr.drewN nq = wq at *
        go_wp2_with fail
        go_meet
        exact ⟨false, rfl, fun h => (by cases h), fun _ => Or.inl hij, HTq.out⟩
    case rest =>
      obtain ⟨q, rfl, hq1, hq2, hTc⟩ := hcut
      have HTc := Hid.mk hTc
      clear hTc
      cases q with
      | true =>
        have hq := hq1 rfl
        have HQ := Hid.mk hq
        have hql := hq.1
        clear hq1 hq2 hq
        go_wp2
        refine ⟨⟨i + 1, by first | rfl | go_num, by omega, HV.out.up HQ.out.1 HQ.out.2, HTc.out⟩, by first | (simp [intOf]; done) | (simp [intOf]; omega)⟩
      | false =>
        have HSi := Hid.mk (hq2 rfl)
        clear hq1 hq2
        go_wp2
        go_loopw [11] (fun s wx => ∃ j : Nat, s = .int .i64 j ∧ j ≤ j0 ∧ PInv (fun x => ltInt x v) v a b d e i j ∧ To g w e wx) (fun s _ => (intOf s + 1).toNat)
        case atStart => exact ⟨j0, rfl, Nat.le_refl _, HV.out, HTc.out⟩
        case round =>
          clear HV HTc
          obtain ⟨j, rfl, hjj, hV, hT⟩ := hrel
          have HV := Hid.mk hV
          have HT := Hid.mk hT
          have hw1 := hV.ij
          have hw2 := hV.jb
          have hw3 := hV.aj
          clear hV hT
          go_upto_region 5 with fail
          go_cut [60] from 46 to 62 (fun c wx => ∃ q : Bool, c = .bool q ∧ (q = true → i ≤ j ∧ (ltInt e[j]! v) = false) ∧ (q = false → ¬ i ≤ j ∨ (ltInt e[j]! v) = true) ∧ To g w e wx)
          case first =>
            by_cases hij : i ≤ j
            · have d1 : decide ((i : Int) ≤ j) = true := decide_eq_true (by omega)
              obtain ⟨f1, f2, _⟩ := HT.out.1.facts (i := j) (j := a) (by omega) (by omega)
              have hls := less_c e[j]! v
              rw [HV.out.va] at f2
              generalize hx : e[j]! = x at *
              have HX := Hid.mk hx
              have bi : (j : Int) < d.size := by omega
              clear hx
              go_quiet ((refine Calls.quiet_of_same ((hls _).mono (fun e w1 hh => ⟨hh.1, hh.2.symm⟩))))
              have HTq := Hid.mk (HT.out.drewN nq)
              clear f1 f2 hls
              generalize wr.drewN nq = wq at *
              go_wp2_with fail
              go_meet
              refine ⟨_, rfl, fun h => ⟨hij, ?_⟩, fun h => Or.inr ?_, HTq.out⟩
              · simpa using h
              · simpa using h
            · have d1 : decide ((i : Int) ≤ j) = false := decide_eq_false (by omega)
              go_quiet (fail)
              have HTq := Hid.mk (HT.out.drewN nq)
              generalize wr.drewN nq = wq at *
              go_wp2_with fail
              go_meet
              exact ⟨false, rfl, fun h => (by cases h), fun _ => Or.inl hij, HTq.out⟩
          case rest =>
            obtain ⟨q, rfl, hq1, hq2, hTc⟩ := hcut
            have HTc := Hid.mk hTc
            clear hTc
            cases q with
            | true =>
              have hq := hq1 rfl
              have HQ := Hid.mk hq
              have hql := hq.1
              clear hq1 hq2 hq
              go_wp2
              refine ⟨⟨j - 1, by first | rfl | (congr 1; omega) | go_num, by omega, HV.out.down HQ.out.1 HQ.out.2, HTc.out⟩, by first | (simp [intOf]; done) | (simp [intOf]; omega)⟩
            | false =>
              have HSj := Hid.mk (hq2 rfl)
              clear hq1 hq2
              by_cases hij : i ≤ j
              · have d1 : decide ((j : Int) < i) = false := decide_eq_false (by omega)
                have hpi : (fun x => ltInt x v) e[i]! = false := by
                  rcases HSi.out with c | c
                  · exact absurd (Nat.le_trans hij hjj) c
                  · exact c
                have hpj : (fun x => ltInt x v) e[j]! = true := by
                  rcases HSj.out with c | c
                  · exact absurd hij c
                  · exact c
                have HN := Hid.mk (HV.out.swap hij hpi hpj)
                have hlt := HN.out.1
                have bi : (i : Int) < d.size := by omega
                have bj : (j : Int) < d.size := by omega
                clear hpi hpj
                obtain ⟨f1, f2, f3, f4, z5, f5⟩ := HTc.out.1.facts (i := i) (j := j) (by omega) (by omega)
                obtain ⟨z6, f6⟩ := HTc.out.1.fact6 i (j := j) (by omega) (.int .u64 e[j]!)
                have HTs : Hid (To g w (swp e i j) (((wc.setCell ⟨g, i, none⟩ (.int .u64 e[j]!)).setCell ⟨g, j, none⟩ (.int .u64 e[i]!)).drew)) := (HTc.out.trans (HTc.out.1.swap HTc.out.lt (i := i) (j := j) (by omega) (by omega))).drew
                generalize e[i]! = x at f1 f2 f5 f6 HTs
                generalize e[j]! = y at f1 f2 f5 f6 HTs
                go_wp2
                go_region
                clear f1 f2 f3 f4 f5 f6
                generalize ((wc.setCell ⟨g, i, none⟩ (.int .u64 y)).setCell ⟨g, j, none⟩ (.int .u64 x)).drew = wn at *
                go_wp2
                go_loopw [10, 11] (fun s t wr => ∃ (i j : Nat) (e : Array Int), s = .int .i64 i ∧ t = .int .i64 j ∧ PInv (fun x => ltInt x v) v a b d e i j ∧ To g w e wr) (fun s t _ => (intOf t - intOf s + 2).toNat)
                case atStart => exact ⟨i + 1, j - 1, swp e i j, by first | rfl | go_num, by first | rfl | (congr 1; omega) | go_num, HN.out.2, HTs.out⟩
                case round =>
                  clear HN HTs HV HTc HSi HSj
                  clear bi bj hlt hij d1 hw1 hw2 hw3 hjj hii hv1 hv2 hv3 hv4
                  obtain ⟨i0, j0, e, rfl, rfl, hV, hT⟩ := hrel
                  have HV := Hid.mk hV
                  have HT := Hid.mk hT
                  clear hV hT
                  go_wp2
                  go_loopw [10] (fun s wx => ∃ i : Nat, s = .int .i64 i ∧ i0 ≤ i ∧ PInv (fun x => ltInt x v) v a b d e i j0 ∧ To g w e wx) (fun s _ => ((j0 : Int) + 2 - intOf s).toNat)
                  case atStart => exact ⟨i0, by first | rfl | go_num, Nat.le_refl _, HV.out, HT.out⟩
                  case round =>
                    clear HV HT
                    obtain ⟨i, rfl, hii, hV, hT⟩ := hrel
                    have HV := Hid.mk hV
                    have HT := Hid.mk hT
                    have hv1 := hV.ai
                    have hv2 := hV.ij
                    have hv3 := hV.jb
                    have hv4 : e.size = d.size := hV.pm.1
                    clear hV hT
                    go_upto_region 13 with fail
                    go_cut [112] from 99 to 114 (fun c wx => ∃ q : Bool, c = .bool q ∧ (q = true → i ≤ j0 ∧ (ltInt e[i]! v) = true) ∧ (q = false → ¬ i ≤ j0 ∨ (ltInt e[i]! v) = false) ∧ To g w e wx)
                    case first =>
                      by_cases hij : i ≤ j0
                      · have d1 : decide ((i : Int) ≤ j0) = true := decide_eq_true (by omega)
                        obtain ⟨f1, f2, _⟩ := HT.out.1.facts (i := i) (j := a) (by omega) (by omega)
                        have hls := less_c e[i]! v
                        rw [HV.out.va] at f2
                        generalize hx : e[i]! = x at *
                        have HX := Hid.mk hx
                        have bi : (i : Int) < d.size := by omega
                        clear hx
                        go_quiet ((refine Calls.quiet_of_same ((hls _).mono (fun e w1 hh => ⟨hh.1, hh.2.symm⟩))))
                        have HTq := Hid.mk (HT.out.drewN nq)
                        clear f1 f2 hls
                        generalize wr.drewN nq = wq at *
                        go_wp2_with fail
                        go_meet
                        refine ⟨_, rfl, fun h => ⟨hij, ?_⟩, fun h => Or.inr ?_, HTq.out⟩
                        · simpa using h
                        · simpa using h
                      · have d1 : decide ((i : Int) ≤ j0) = false := decide_eq_false (by omega)
                        go_quiet (fail)
                        have HTq := Hid.mk (HT.out.drewN nq)
                        generalize wr.drewN nq = wq at *
                        go_wp2_with fail
                        go_meet
                        exact ⟨false, rfl, fun h => (by cases h), fun _ => Or.inl hij, HTq.out⟩
                    case rest =>
                      obtain ⟨q, rfl, hq1, hq2, hTc⟩ := hcut
                      have HTc := Hid.mk hTc
                      clear hTc
                      cases q with
                      | true =>
                        have hq := hq1 rfl
                        have HQ := Hid.mk hq
                        have hql := hq.1
                        clear hq1 hq2 hq
                        go_wp2
                        refine ⟨⟨i + 1, by first | rfl | go_num, by omega, HV.out.up HQ.out.1 HQ.out.2, HTc.out⟩, by first | (simp [intOf]; done) | (simp [intOf]; omega)⟩
                      | false =>
                        have HSi := Hid.mk (hq2 rfl)
                        clear hq1 hq2
                        go_wp2
                        go_loopw [11] (fun s wx => ∃ j : Nat, s = .int .i64 j ∧ j ≤ j0 ∧ PInv (fun x => ltInt x v) v a b d e i j ∧ To g w e wx) (fun s _ => (intOf s + 1).toNat)
                        case atStart => exact ⟨j0, rfl, Nat.le_refl _, HV.out, HTc.out⟩
                        case round =>
                          clear HV HTc
                          obtain ⟨j, rfl, hjj, hV, hT⟩ := hrel
                          have HV := Hid.mk hV
                          have HT := Hid.mk hT
                          have hw1 := hV.ij
                          have hw2 := hV.jb
                          have hw3 := hV.aj
                          clear hV hT
                          go_upto_region 15 with fail
                          go_cut [129] from 115 to 131 (fun c wx => ∃ q : Bool, c = .bool q ∧ (q = true → i ≤ j ∧ (ltInt e[j]! v) = false) ∧ (q = false → ¬ i ≤ j ∨ (ltInt e[j]! v) = true) ∧ To g w e wx)
                          case first =>
                            by_cases hij : i ≤ j
                            · have d1 : decide ((i : Int) ≤ j) = true := decide_eq_true (by omega)
                              obtain ⟨f1, f2, _⟩ := HT.out.1.facts (i := j) (j := a) (by omega) (by omega)
                              have hls := less_c e[j]! v
                              rw [HV.out.va] at f2
                              generalize hx : e[j]! = x at *
                              have HX := Hid.mk hx
                              have bi : (j : Int) < d.size := by omega
                              clear hx
                              go_quiet ((refine Calls.quiet_of_same ((hls _).mono (fun e w1 hh => ⟨hh.1, hh.2.symm⟩))))
                              have HTq := Hid.mk (HT.out.drewN nq)
                              clear f1 f2 hls
                              generalize wr.drewN nq = wq at *
                              go_wp2_with fail
                              go_meet
                              refine ⟨_, rfl, fun h => ⟨hij, ?_⟩, fun h => Or.inr ?_, HTq.out⟩
                              · simpa using h
                              · simpa using h
                            · have d1 : decide ((i : Int) ≤ j) = false := decide_eq_false (by omega)
                              go_quiet (fail)
                              have HTq := Hid.mk (HT.out.drewN nq)
                              generalize wr.drewN nq = wq at *
                              go_wp2_with fail
                              go_meet
                              exact ⟨false, rfl, fun h => (by cases h), fun _ => Or.inl hij, HTq.out⟩
                          case rest =>
                            obtain ⟨q, rfl, hq1, hq2, hTc⟩ := hcut
                            have HTc := Hid.mk hTc
                            clear hTc
                            cases q with
                            | true =>
                              have hq := hq1 rfl
                              have HQ := Hid.mk hq
                              have hql := hq.1
                              clear hq1 hq2 hq
                              go_wp2
                              refine ⟨⟨j - 1, by first | rfl | (congr 1; omega) | go_num, by omega, HV.out.down HQ.out.1 HQ.out.2, HTc.out⟩, by first | (simp [intOf]; done) | (simp [intOf]; omega)⟩
                            | false =>
                              have HSj := Hid.mk (hq2 rfl)
                              clear hq1 hq2
                              by_cases hij : i ≤ j
                              · have d1 : decide ((j : Int) < i) = false := decide_eq_false (by omega)
                                have hpi : (fun x => ltInt x v) e[i]! = false := by
                                  rcases HSi.out with c | c
                                  · exact absurd (Nat.le_trans hij hjj) c
                                  · exact c
                                have hpj : (fun x => ltInt x v) e[j]! = true := by
                                  rcases HSj.out with c | c
                                  · exact absurd hij c
                                  · exact c
                                have HN := Hid.mk (HV.out.swap hij hpi hpj)
                                have hlt := HN.out.1
                                have bi : (i : Int) < d.size := by omega
                                have bj : (j : Int) < d.size := by omega
                                clear hpi hpj
                                obtain ⟨f1, f2, f3, f4, z5, f5⟩ := HTc.out.1.facts (i := i) (j := j) (by omega) (by omega)
                                obtain ⟨z6, f6⟩ := HTc.out.1.fact6 i (j := j) (by omega) (.int .u64 e[j]!)
                                have HTs : Hid (To g w (swp e i j) (((wc.setCell ⟨g, i, none⟩ (.int .u64 e[j]!)).setCell ⟨g, j, none⟩ (.int .u64 e[i]!)).drew)) := (HTc.out.trans (HTc.out.1.swap HTc.out.lt (i := i) (j := j) (by omega) (by omega))).drew
                                generalize e[i]! = x at f1 f2 f5 f6 HTs
                                generalize e[j]! = y at f1 f2 f5 f6 HTs
                                go_wp2
                                go_region
                                clear f1 f2 f3 f4 f5 f6
                                generalize ((wc.setCell ⟨g, i, none⟩ (.int .u64 y)).setCell ⟨g, j, none⟩ (.int .u64 x)).drew = wn at *
                                go_wp2
                                refine ⟨⟨i + 1, j - 1, swp e i j, by first | rfl | go_num, by first | rfl | (congr 1; omega) | go_num, HN.out.2, HTs.out⟩, by first | (simp [intOf]; done) | (simp [intOf]; omega)⟩
                              · have d1 : decide ((j : Int) < i) = true := decide_eq_true (by omega)
                                have HE := Hid.mk (HV.out.paEnd hij)
                                have bj : (j : Int) < d.size := by omega
                                obtain ⟨f1, f2, f3, f4, z5, f5⟩ := HTc.out.1.facts (i := j) (j := a) (by omega) (by omega)
                                obtain ⟨z6, f6⟩ := HTc.out.1.fact6 j (j := a) (by omega) (.int .u64 e[a]!)
                                have HTs : Hid (To g w (swp e j a) (((wc.setCell ⟨g, j, none⟩ (.int .u64 e[a]!)).setCell ⟨g, a, none⟩ (.int .u64 e[j]!)).drew)) := (HTc.out.trans (HTc.out.1.swap HTc.out.lt (i := j) (j := a) (by omega) (by omega))).drew
                                generalize e[j]! = x at f1 f2 f5 f6 HTs
                                generalize e[a]! = y at f1 f2 f5 f6 HTs
                                go_wp2
                                go_region
                                clear f1 f2 f3 f4 f5 f6
                                generalize ((wc.setCell ⟨g, j, none⟩ (.int .u64 y)).setCell ⟨g, a, none⟩ (.int .u64 x)).drew = wn at *
                                go_wp2
                                go_ret2
                                exact ⟨j, _, false, rfl, HE.out, HTs.out⟩
              · have d1 : decide ((j : Int) < i) = true := decide_eq_true (by omega)
                have HE := Hid.mk (HV.out.paEnd hij)
                have bj : (j : Int) < d.size := by omega
                obtain ⟨f1, f2, f3, f4, z5, f5⟩ := HTc.out.1.facts (i := j) (j := a) (by omega) (by omega)
                obtain ⟨z6, f6⟩ := HTc.out.1.fact6 j (j := a) (by omega) (.int .u64 e[a]!)
                have HTs : Hid (To g w (swp e j a) (((wc.setCell ⟨g, j, none⟩ (.int .u64 e[a]!)).setCell ⟨g, a, none⟩ (.int .u64 e[j]!)).drew)) := (HTc.out.trans (HTc.out.1.swap HTc.out.lt (i := j) (j := a) (by omega) (by omega))).drew
                generalize e[j]! = x at f1 f2 f5 f6 HTs
                generalize e[a]! = y at f1 f2 f5 f6 HTs
                go_wp2
                go_region
                clear f1 f2 f3 f4 f5 f6
                generalize ((wc.setCell ⟨g, j, none⟩ (.int .u64 y)).setCell ⟨g, a, none⟩ (.int .u64 x)).drew = wn at *
                go_wp2
                go_ret2
                exact ⟨j, _, true, rfl, HE.out, HTs.out⟩
end Go.Proofs.Ytiedlkhbbnjkbaa
