/- Clear. -/
import Derived.Test.YtiedlkhbbnjkbaaPhysIter
namespace Go.Proofs.Ytiedlkhbbnjkbaa
open Go.RowKit Go.Maps

/-- The error of a stretch: 13 (not aligned), 12 (not within), 0. -/
def errC (S A N : Nat) : Int := if A % 8 ≠ 0 ∨ N % 8 ≠ 0 then 13 else if S < A ∨ S - A < N then 12 else 0

/-- The words behind Clear(A, N). -/
def clrF (f : Nat → Nat) (S A N : Nat) : Nat → Nat := if errC S A N = 0 then (fun y => if A ≤ y ∧ y < A + N then 0 else f y) else f

/-- .. the pages below B done. -/
def clrTo (f : Nat → Nat) (A E B : Nat) : Nat → Nat := fun y => if A ≤ y ∧ y < E ∧ dn y < B then 0 else f y
/-- .. the pages that are not left done. -/
def clrL (f : Nat → Nat) (A E : Nat) (left : Nat → Bool) : Nat → Nat := fun y => if A ≤ y ∧ y < E ∧ left (dn y) = false then 0 else f y

theorem clrTo_start (f : Nat → Nat) (A E : Nat) : clrTo f A E (dn A) = f := by
  funext y
  unfold clrTo
  rw [if_neg]
  intro c
  have := dn_mod y
  have := dn_lt y
  have := dn_mod A
  have := dn_le A
  omega
theorem clrTo_step {f : Nat → Nat} {A E B : Nat} (hB : B % 4096 = 0) : clrP (clrTo f A E B) B A E = clrTo f A E (B + 4096) := by
  funext y
  unfold clrP clrTo
  have := dn_mod y
  by_cases c1 : A ≤ y ∧ y < E ∧ dn y = B
  · rw [if_pos c1, if_pos ⟨c1.1, c1.2.1, by omega⟩]
  · rw [if_neg c1]
    by_cases c2 : A ≤ y ∧ y < E ∧ dn y < B
    · rw [if_pos c2, if_pos ⟨c2.1, c2.2.1, by omega⟩]
    · rw [if_neg c2, if_neg (fun c => ?_)]
      by_cases c3 : dn y = B
      · exact c1 ⟨c.1, c.2.1, c3⟩
      · exact c2 ⟨c.1, c.2.1, by omega⟩
theorem clrTo_end {f : Nat → Nat} {A E B : Nat} (h : E ≤ B) : clrTo f A E B = fun y => if A ≤ y ∧ y < E then 0 else f y := by
  funext y
  unfold clrTo
  by_cases c : A ≤ y ∧ y < E
  · rw [if_pos c, if_pos ⟨c.1, c.2, by have := dn_le y; omega⟩]
  · rw [if_neg c, if_neg (fun c2 => c ⟨c2.1, c2.2.1⟩)]

theorem clrL_start {w : World} {X : Nat → Prop} {a S n : Nat} {f : Nat → Nat} {mb : Nat} {pg : Nat → Option Nat} (h : Mem w X a S n f mb pg) (A E : Nat) : clrL f A E (fun x => (pg x).isSome) = f := by
  funext y
  unfold clrL
  by_cases c : A ≤ y ∧ y < E ∧ (pg (dn y)).isSome = false
  · rw [if_pos c]
    by_cases h8 : y % 8 = 0
    · have e : pg (dn y) = none := by simpa using c.2.2
      have := h.zero _ (dn_mod y) e (plc y) (plc_lt y)
      rw [dn_plc h8] at this
      exact this.symm
    · exact (h.out y (Or.inl h8)).symm
  · rw [if_neg c]
theorem clrL_step {f : Nat → Nat} {A E x : Nat} {left : Nat → Bool} : clrP (clrL f A E left) x A E = clrL f A E (fun y => left y && !decide (y = x)) := by
  funext y
  unfold clrP clrL
  by_cases c1 : A ≤ y ∧ y < E ∧ dn y = x
  · rw [if_pos c1, if_pos ⟨c1.1, c1.2.1, by simp [c1.2.2]⟩]
  · rw [if_neg c1]
    by_cases c2 : A ≤ y ∧ y < E ∧ left (dn y) = false
    · rw [if_pos c2, if_pos ⟨c2.1, c2.2.1, by simp [c2.2.2]⟩]
    · rw [if_neg c2, if_neg (fun c => ?_)]
      by_cases c3 : dn y = x
      · exact c1 ⟨c.1, c.2.1, c3⟩
      · exact c2 ⟨c.1, c.2.1, by simpa [c3] using c.2.2⟩
theorem clrL_skip {f : Nat → Nat} {A E x : Nat} {left : Nat → Bool} (hx : x % 4096 = 0) (h : x < dn A ∨ E ≤ x) : clrL f A E left = clrL f A E (fun y => left y && !decide (y = x)) := by
  funext y
  unfold clrL
  by_cases c3 : dn y = x
  · have h1 : ¬ (A ≤ y ∧ y < E) := by
      have := dn_mod A
      have := dn_le A
      have := dn_le y
      have := dn_lt y
      omega
    rw [if_neg (fun c => h1 ⟨c.1, c.2.1⟩), if_neg (fun c => h1 ⟨c.1, c.2.1⟩)]
  · simp [c3]
theorem clrL_end {f : Nat → Nat} {A E : Nat} {left : Nat → Bool} (hE : E < 18446744073709551616) (hl : ∀ x, x < 18446744073709551616 → left x = false) : clrL f A E left = fun y => if A ≤ y ∧ y < E then 0 else f y := by
  funext y
  unfold clrL
  by_cases c : A ≤ y ∧ y < E
  · rw [if_pos c, if_pos ⟨c.1, c.2, hl _ (by have := dn_le y; omega)⟩]
  · rw [if_neg c, if_neg (fun c2 => c ⟨c2.1, c2.2.1⟩)]

/-- What the round of the second loop keeps. -/
structure ClrRel (w : World) (X : Nat → Prop) (a S n : Nat) (f : Nat → Nat) (mb r A E : Nat) (wr : World) (left : Nat → Bool) (cn : Nat) (pg : Nat → Option Nat) : Prop where
  rg : PRange wr mb r n pg left cn
  mem : Mem wr X a S n (clrL f A E left) mb pg
  turn : Turn X w wr
  lo : ∀ i, X i → i < r

def ClearPost (w : World) (X : Nat → Prop) (a S n : Nat) (f : Nat → Nat) (A N : Nat) (e : Ending) (w' : World) : Prop :=
  e = .returned (.int .i64 (errC S A N)) ∧ MemAt w' X a S n (clrF f S A N) ∧ Turn X w w'

set_option maxRecDepth 100000 in
set_option maxHeartbeats 4000000 in
theorem clear_c {w : World} {X : Nat → Prop} {a S n : Nat} {f : Nat → Nat} (h : MemAt w X a S n f) (hn : n < 100000000) (A N : Nat) (hA : A < 18446744073709551616) (hN : N < 18446744073709551616) :
    Calls Try.prog 16 #[.pointer (some ⟨a, 0, none⟩), .int .u64 A, .int .u64 N] w fun e w' => ClearPost w X a S n f A N e w' := by
  have HM := Hid.mk h
  have hal1 := aligned_c A 3 (Or.inl rfl) hA
  have hal2 := aligned_c N 3 (Or.inl rfl) hN
  obtain ⟨mb, pg, h⟩ := h
  have c0 := h.c0
  have c1 := h.c1
  have hs0 := h.s0
  have H1 := Hid.mk h
  have HP := Hid.mk h.pgs
  obtain ⟨ks, _, _, hkn, hlen⟩ := h.pgs.len
  clear h
  have bad : errC S A N ≠ 0 → ∀ e, e = .returned (.int .i64 (errC S A N)) → ClearPost w X a S n f A N e w := fun he e h1 => ⟨h1, by unfold clrF; rw [if_neg he]; exact HM.out, Turn.refl _ _⟩
  have HBad := Hid.mk bad
  clear bad
  cases a1 : alB A 3
  · have he : errC S A N = 13 := by unfold errC; rw [if_pos (Or.inl (of_decide_eq_false a1))]
    have HE := Hid.mk he
    clear he hlen
    go_enter Try.func16, Try.ntmps16
    go_wp2_with fail
    refine (hal1 w).mono ?_
    rintro e w1 ⟨rfl, rfl⟩
    rw [a1]
    go_wp2
    go_ret
    exact HBad.out (by rw [HE.out]; decide) _ (by rw [HE.out]; rfl)
  · cases a2 : alB N 3
    · have he : errC S A N = 13 := by unfold errC; rw [if_pos (Or.inr (of_decide_eq_false a2))]
      have HE := Hid.mk he
      clear he hlen
      go_enter Try.func16, Try.ntmps16
      go_wp2_with fail
      refine (hal1 w).mono ?_
      rintro e w1 ⟨rfl, rfl⟩
      rw [a1]
      go_wp2_with fail
      refine (hal2 w).mono ?_
      rintro e w1 ⟨rfl, rfl⟩
      rw [a2]
      go_wp2
      go_ret
      exact HBad.out (by rw [HE.out]; decide) _ (by rw [HE.out]; rfl)
    · have g1 : A % 8 = 0 := of_decide_eq_true a1
      have g2 : N % 8 = 0 := of_decide_eq_true a2
      have hno : ¬ (A % 8 ≠ 0 ∨ N % 8 ≠ 0) := by omega
      by_cases b1 : S < A
      · have he : errC S A N = 12 := by unfold errC; rw [if_neg hno, if_pos (Or.inl b1)]
        have HE := Hid.mk he
        have d1 : decide ((S : Int) < A) = true := decide_eq_true (by omega)
        clear he hlen hno g1 g2
        go_enter Try.func16, Try.ntmps16
        go_wp2_with fail
        refine (hal1 w).mono ?_
        rintro e w1 ⟨rfl, rfl⟩
        rw [a1]
        go_wp2_with fail
        refine (hal2 w).mono ?_
        rintro e w1 ⟨rfl, rfl⟩
        rw [a2]
        go_wp2
        go_ret
        exact HBad.out (by rw [HE.out]; decide) _ (by rw [HE.out]; rfl)
      · have d1 : decide ((S : Int) < A) = false := decide_eq_false (by omega)
        by_cases b2 : S - A < N
        · have he : errC S A N = 12 := by unfold errC; rw [if_neg hno, if_pos (Or.inr b2)]
          have HE := Hid.mk he
          have d2 : decide ((S : Int) - A < N) = true := decide_eq_true (by omega)
          clear he hlen hno g1 g2
          go_enter Try.func16, Try.ntmps16
          go_wp2_with fail
          refine (hal1 w).mono ?_
          rintro e w1 ⟨rfl, rfl⟩
          rw [a1]
          go_wp2_with fail
          refine (hal2 w).mono ?_
          rintro e w1 ⟨rfl, rfl⟩
          rw [a2]
          go_wp2
          go_ret
          exact HBad.out (by rw [HE.out]; decide) _ (by rw [HE.out]; rfl)
        · have he : errC S A N = 0 := by unfold errC; rw [if_neg hno, if_neg (by omega)]
          have d2 : decide ((S : Int) - A < N) = false := decide_eq_false (by omega)
          have HE : Hid (errC S A N = 0 ∧ clrF f S A N = fun y => if A ≤ y ∧ y < A + N then 0 else f y) := ⟨he, by unfold clrF; rw [if_pos he]⟩
          have hdl := dn_le A
          have hdm := dn_mod A
          have hdt := dn_lt A
          have hd := down_c A hA w
          have hce : ((A : Int) + N) = ((A + N : Nat) : Int) := by omega
          have hEl : A + N ≤ S := by omega
          have hE8 : (A + N) % 8 = 0 := by omega
          have hAE : A ≤ A + N := by omega
          have HS0 : Hid (clrTo f A (A + N) (dn A) = f) := clrTo_start _ _ _
          have HSk : Hid (∀ x left, x % 4096 = 0 → (x < dn A ∨ A + N ≤ x) → clrL f A (A + N) left = clrL f A (A + N) (fun y => left y && !decide (y = x))) := fun x left q1 q2 => clrL_skip q1 q2
          generalize hEE : A + N = E at *
          generalize hDD : dn A = D at *
          clear he hno hEE hDD b1 b2
          go_enter Try.func16, Try.ntmps16
          go_wp2_with fail
          refine (hal1 w).mono ?_
          rintro e w1 ⟨rfl, rfl⟩
          rw [a1]
          go_wp2_with fail
          refine (hal2 w).mono ?_
          rintro e w1 ⟨rfl, rfl⟩
          rw [a2]
          go_wp2_with fail
          refine hd.mono ?_
          rintro e w1 ⟨rfl, rfl⟩
          clear hd hal1 hal2
          have hkc : (ks.length : Int) ≤ 100000000 := by omega
          have hEc : (E : Int) ≤ 4294967296 := by omega
          have hDc : (D : Int) ≤ E := by omega
          have HD0 : Hid (D ≤ E ∧ E ≤ S ∧ A < D + 4096 ∧ A ≤ E ∧ D % 4096 = 0 ∧ A % 8 = 0 ∧ E % 8 = 0 ∧ S ≤ 4294967296) := by
            refine ⟨by omega, by omega, by omega, by omega, by omega, by omega, by omega, by omega⟩
          clear hdm hdt hEl hE8 hAE g1 g2 hdl
          cases hq : decide (((E : Int) - D) / 4096 < (ks.length : Int))
          · go_wp2_with (first
              | (at_range; refine wpList_rangeP _ rfl _ rfl mb n pg rfl HP.out ?_; intro w9 cnt9 hrg9 hg9 hs9 hcn9)
              | go_in)
            go_frame
            have hR0 : ClrRel w X a S n f mb w.heap.size A E w9 (fun x => (pg x).isSome) cnt9 pg := by
              refine ⟨hrg9, ?_, turn_of_below _ hg9, H1.out.xlt⟩
              rw [clrL_start H1.out]
              exact H1.out.kept (fun i hi => hg9.block i (H1.out.xlt i hi)) hg9.size
            clear hrg9 hg9 hs9 hcn9 HP hlen hq hkc hkn
            go_loopw [10] (fun _ wr => ∃ left cn pg', ClrRel w X a S n f mb w.heap.size A E wr left cn pg') (fun _ wr => wr.rangeLeft mb w.heap.size)
            case atStart => exact ⟨_, _, _, hR0⟩
            case round =>
              clear hR0
              obtain ⟨left, cn, pg', hR⟩ := hrel
              have hrg := hR.rg
              have HR := Hid.mk hR
              clear hR
              go_wp2_with (first
                | (at_next; refine wpList_nextP _ rfl _ rfl mb w.heap.size n pg' left cn rfl hrg ?_ ?_)
                | go_in)
              · intro hl
                have HL := Hid.mk hl
                clear hl hrg
                go_wp2
                go_ret
                refine ⟨by rw [HE.out.1]; rfl, ?_, HR.out.turn⟩
                rw [HE.out.2, ← clrL_end (by have := HD0.out; omega) HL.out]
                exact ⟨mb, pg', HR.out.mem⟩
              · intro x c w1 cnt1 hx hlx hpx hrg1 hlt hg1 hs1 hen
                have hR := HR.out
                obtain ⟨p1, p2, p3, p4, _⟩ := hR.mem.page x c hpx
                have hnr : ¬ X w.heap.size := fun c => by have := hR.lo _ c; omega
                have hm1 : Mem w1 X a S n (clrL f A E left) mb pg' := hR.mem.step hg1 hnr
                have ht1 : Turn X w w1 := ⟨hg1.os.trans hR.turn.os, hg1.tape.trans hR.turn.tape, hg1.output.trans hR.turn.output, Nat.le_trans hR.turn.size hg1.size, fun i hi hX => (hg1.block i (Nat.lt_of_lt_of_le hi hR.turn.size) (fun e => by have := Option.some.inj e; omega)).trans (hR.turn.block i hi hX)⟩
                have hd0 := HD0.out
                have HM1 := Hid.mk hm1
                have HT1 := Hid.mk ht1
                have HG1 : Hid (PRange w1 mb w.heap.size n pg' (fun y => left y && !decide (y = x)) cnt1 ∧ cnt1 < cn ∧ wr.rangeLeft mb w.heap.size = cn ∧ x % 4096 = 0 ∧ x < S ∧ ∀ i, X i → i < w.heap.size) := ⟨hrg1, hlt, hrg.left_eq, p2, p3, hR.lo⟩
                clear hR hrg hrg1 hlt hg1 hs1 hnr hm1 ht1 p1 p2 p3 p4 hlx hpx
                by_cases b1 : D ≤ x
                · have e1 : decide ((D : Int) ≤ x) = true := decide_eq_true (by omega)
                  by_cases b2 : x < E
                  · have e2 : decide ((x : Int) < E) = true := decide_eq_true (by omega)
                    have hcl := clr_c HM1.out x A E HG1.out.2.2.2.1 (by omega) (by omega) (by omega) (by omega) (by omega) (by omega) (by omega)
                    clear hd0
                    go_wp2_with fail
                    refine hcl.mono ?_
                    rintro e w2 ⟨rfl, hp⟩
                    have HP2 := Hid.mk hp
                    clear hp hcl
                    go_wp2
                    have key : ∃ cn2 pg2, ClrRel w X a S n f mb w.heap.size A E w2 (fun y => left y && !decide (y = x)) cn2 pg2 ∧ cn2 < cn := by
                      obtain ⟨k1, k2, k3, k4, k5, k6⟩ := HG1.out
                      obtain ⟨hm2, ht2⟩ := HP2.out.mem HM1.out k4 hx
                      obtain ⟨cn2, hrg2, hle⟩ := HP2.out.range HM1.out k1 hx (by simp)
                      rw [clrL_step] at hm2
                      exact ⟨cn2, _, ⟨hrg2, hm2, HT1.out.trans ht2 (fun i _ hi => hi), k6⟩, by omega⟩
                    obtain ⟨cn2, pg2, hR2, hlt2⟩ := key
                    go_roundw
                    case rel => exact ⟨_, _, _, hR2⟩
                    case measure => rw [hR2.rg.left_eq, HG1.out.2.2.1]; exact hlt2
                  · have e2 : decide ((x : Int) < E) = false := decide_eq_false (by omega)
                    clear hd0
                    go_wp2
                    go_roundw
                    case rel =>
                      refine ⟨_, _, _, HG1.out.1, ?_, HT1.out, HG1.out.2.2.2.2.2⟩
                      rw [← HSk.out x left HG1.out.2.2.2.1 (Or.inr (by omega))]
                      exact HM1.out
                    case measure => rw [HG1.out.1.left_eq, HG1.out.2.2.1]; exact HG1.out.2.1
                · have e1 : decide ((D : Int) ≤ x) = false := decide_eq_false (by omega)
                  clear hd0
                  go_wp2
                  go_roundw
                  case rel =>
                    refine ⟨_, _, _, HG1.out.1, ?_, HT1.out, HG1.out.2.2.2.2.2⟩
                    rw [← HSk.out x left HG1.out.2.2.2.1 (Or.inl (by omega))]
                    exact HM1.out
                  case measure => rw [HG1.out.1.left_eq, HG1.out.2.2.1]; exact HG1.out.2.1
          · clear HP HSk
            have HR0 : Hid (MemAt w X a S n (clrTo f A E D)) := by
              show MemAt _ _ _ _ _ _
              rw [HS0.out]; exact HM.out
            go_wp2
            go_loopw [9] (fun t wr => ∃ B : Nat, t = .int .u64 (B : Nat) ∧ B % 4096 = 0 ∧ D ≤ B ∧ B ≤ E + 4096 ∧ MemAt wr X a S n (clrTo f A E B) ∧ Turn X w wr) (fun t _ => E + 8192 - (intOf t).toNat)
            case atStart => exact ⟨D, rfl, HD0.out.2.2.2.2.1, Nat.le_refl _, by have := HD0.out; omega, HR0.out, Turn.refl _ _⟩
            case round =>
              clear HR0
              obtain ⟨B, rfl, hB1, hB2, hB3, hm, ht⟩ := hrel
              have HMm := Hid.mk hm
              have HTt := Hid.mk ht
              clear hm ht hq hkc hkn hlen
              have hd0 := HD0.out
              by_cases b1 : B < E
              · have e1 : decide ((B : Int) < E) = true := decide_eq_true (by omega)
                obtain ⟨mb2, pg2, hm2⟩ := HMm.out
                have hcl := clr_c hm2 B A E hB1 (by omega) (by omega) (by omega) (by omega) (by omega) (by omega) (by omega)
                have HM2 := Hid.mk hm2
                have hBl : B < 4294967296 := by omega
                clear hm2 hd0
                go_wp2_with fail
                refine hcl.mono ?_
                rintro e w2 ⟨rfl, hp⟩
                have HP2 := Hid.mk hp
                clear hp hcl
                go_wp2
                refine ⟨⟨B + 4096, by go_num, by omega, by omega, by omega, ?_, ?_⟩, by simp [intOf]; omega⟩
                · have := (HP2.out.mem HM2.out hB1 (by omega)).1
                  rw [clrTo_step hB1] at this
                  exact ⟨mb2, _, this⟩
                · exact HTt.out.trans (HP2.out.mem HM2.out hB1 (by omega)).2 (fun i _ hi => hi)
              · have e1 : decide ((B : Int) < E) = false := decide_eq_false (by omega)
                have HbE : Hid (E ≤ B) := by (show E ≤ B; omega)
                clear hd0
                go_wp2
                go_ret
                refine ⟨by rw [HE.out.1]; rfl, ?_, HTt.out⟩
                rw [HE.out.2, ← clrTo_end HbE.out]
                exact HMm.out
end Go.Proofs.Ytiedlkhbbnjkbaa
