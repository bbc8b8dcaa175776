/- Find. -/
import Derived.Test.YtiedlkhbbnjkbaaPhysIter
namespace Go.Proofs.Ytiedlkhbbnjkbaa
open Go.RowKit Go.Maps

set_option maxRecDepth 100000 in
set_option maxHeartbeats 1000000 in
theorem find_c {w : World} {b : Nat} {g : Nat → Nat} (hrow : w.heap[b]? = some (.cells (prow g) 68 (0, 0))) (hg : ∀ i, g i < 18446744073709551616) (s v : Nat) (hs : s ≤ 4096) (hv : v < 18446744073709551616) :
    Calls Try.prog 35 #[.pointer (some ⟨b, 0, none⟩), .int .u64 s, .int .u64 v] w fun e w' => ∃ r : Nat, e = .returned (.int .u64 r) ∧ ((s + 7) / 8 ≤ r ∧ r ≤ 512 ∧ (∀ j, (s + 7) / 8 ≤ j → j < r → g j ≠ v) ∧ (r < 512 → g r = v)) ∧ w = w' := by
  have HC : Hid (∀ i, i < 512 → w.cell? ⟨b, i, none⟩ = some (.int .u64 (g i : Nat))) := fun i hi => pcell hrow hi
  have h0 : ((s : Int) + 8 - 1) / 8 = (((s + 7) / 8 : Nat) : Int) := by omega
  have h1 : (s + 7) / 8 ≤ 512 := by omega
  generalize (s + 7) / 8 = i0 at *
  clear hrow
  go_enter Try.func35, Try.ntmps35
  go_wp2
  go_loop [7] (fun i => ∃ k : Nat, i = .int .u64 k ∧ i0 ≤ k ∧ k ≤ 512 ∧ ∀ j, i0 ≤ j → j < k → g j ≠ v) (fun i => 512 - (intOf i).toNat)
  case atStart => exact ⟨i0, by first | rfl | (congr 1; done) | (congr 1; omega), Nat.le_refl _, h1, fun j _ _ => by omega⟩
  case round =>
    obtain ⟨k, rfl, hk0, hk, hall⟩ := hrel
    have HA : Hid (∀ j, i0 ≤ j → j < k → g j ≠ v) := hall
    clear hall
    by_cases hlt : k < 512
    · have hd1 : decide ((k : Int) < 512) = true := decide_eq_true (by omega)
      have hc := HC.out k hlt
      have hgk := hg k
      have HG : Hid (∃ z, z = g k) := ⟨_, rfl⟩
      obtain ⟨z, hz⟩ := HG.out
      rw [← hz] at hc hgk
      have HZ : Hid (z = g k) := hz
      clear hz HG hg
      by_cases hzv : z = v
      · subst hzv
        go_wp2
        go_ret
        exact ⟨k, rfl, ⟨hk0, hk, HA.out, fun _ => HZ.out.symm⟩, rfl⟩
      · have hne : ¬ ((z : Int) = v) := by omega
        clear h0
        go_wp2
        refine ⟨⟨k + 1, by go_num, by omega, by omega, fun j h2 h3 => ?_⟩, by simp [intOf]; omega⟩
        by_cases e : j = k
        · rw [e, ← HZ.out]; exact hzv
        · exact HA.out j h2 (by omega)
    · obtain rfl : k = 512 := by omega
      go_wp2
      go_ret
      exact ⟨512, rfl, ⟨hk0, hk, HA.out, fun c => absurd c (by omega)⟩, rfl⟩

/-- What the round of Find keeps. -/
structure FindRel (w : World) (S n : Nat) (f : Nat → Nat) (mb r : Nat) (pg : Nat → Option Nat) (fr v : Nat) (wr : World) (left : Nat → Bool) (cn : Nat) (B : Nat) : Prop where
  rg : PRange wr mb r n pg left cn
  bel : Below r w wr
  le : B ≤ S
  hit : B < S → fr ≤ B ∧ f B = v ∧ left (dn B) = false
  none_ : ∀ y, fr ≤ y → y < B → left (dn y) = false → f y ≠ v

theorem FindRel.skip {w : World} {X : Nat → Prop} {a S n : Nat} {f : Nat → Nat} {mb r : Nat} {pg : Nat → Option Nat} {fr v : Nat} {wr w1 : World} {left : Nat → Bool} {cn cn1 B x : Nat} (h : Mem w X a S n f mb pg) (hR : FindRel w S n f mb r pg fr v wr left cn B) (hv : v ≠ 0)
    (hrg1 : PRange w1 mb r n pg (fun y => left y && !decide (y = x)) cn1) (hb : Below r w w1) (hno : ∀ j, j < 512 → fr ≤ x + 8 * j → x + 8 * j < B → f (x + 8 * j) ≠ v) :
    FindRel w S n f mb r pg fr v w1 (fun y => left y && !decide (y = x)) cn1 B := by
  refine ⟨hrg1, hb, hR.le, fun hB => ?_, fun y h1 h2 h3 => ?_⟩
  · obtain ⟨q1, q2, q3⟩ := hR.hit hB
    exact ⟨q1, q2, by rw [q3]; rfl⟩
  · by_cases e : dn y = x
    · by_cases h8 : y % 8 = 0
      · have := hno (plc y) (plc_lt y)
        rw [← e, dn_plc h8] at this
        exact this h1 h2
      · rw [h.out y (Or.inl h8)]; exact fun c => hv c.symm
    · exact hR.none_ y h1 h2 (by simpa [e] using h3)

theorem FindRel.take {w : World} {X : Nat → Prop} {a S n : Nat} {f : Nat → Nat} {mb r : Nat} {pg : Nat → Option Nat} {fr v : Nat} {wr w1 : World} {left : Nat → Bool} {cn cn1 B x c k : Nat} (h : Mem w X a S n f mb pg) (hR : FindRel w S n f mb r pg fr v wr left cn B) (hv : v ≠ 0) (hpx : pg x = some c) (hlx : left x = true)
    (hrg1 : PRange w1 mb r n pg (fun y => left y && !decide (y = x)) cn1) (hb : Below r w w1) (hxB : x < B) (hk : k < 512) (hfk : f (x + 8 * k) = v) (hfr : fr ≤ x + 8 * k) (hno : ∀ j, j < k → fr ≤ x + 8 * j → f (x + 8 * j) ≠ v) :
    FindRel w S n f mb r pg fr v w1 (fun y => left y && !decide (y = x)) cn1 (x + 8 * k) := by
  obtain ⟨p1, p2, p3, _, _⟩ := h.page x c hpx
  have hs0 := h.s0
  have hdx : dn (x + 8 * k) = x := by unfold dn; omega
  have hBx : x + 8 * k < B := by
    by_cases hB : B < S
    · obtain ⟨q1, q2, q3⟩ := hR.hit hB
      have hne : dn B ≠ x := fun e => by rw [e, hlx] at q3; cases q3
      have h8 : B % 8 = 0 := by
        by_cases h8 : B % 8 = 0
        · exact h8
        · rw [h.out B (Or.inl h8)] at q2; exact absurd q2.symm hv
      have := dn_mod B
      have := dn_le B
      have := dn_lt B
      omega
    · have := hR.le
      omega
  refine ⟨hrg1, hb, by have := hR.le; omega, fun _ => ⟨hfr, hfk, by rw [hdx]; simp⟩, fun y h1 h2 h3 => ?_⟩
  by_cases e : dn y = x
  · by_cases h8 : y % 8 = 0
    · have h4 := dn_plc h8
      rw [e] at h4
      have := hno (plc y) (by omega)
      rw [h4] at this
      exact this h1
    · rw [h.out y (Or.inl h8)]; exact fun c => hv c.symm
  · exact hR.none_ y h1 (by omega) (by simpa [e] using h3)

/-- What Find tells. -/
def FindSays (f : Nat → Nat) (fr v : Nat) (r : Nat) (ok : Bool) : Prop :=
  (v = 0 ∧ r = 0 ∧ ok = false) ∨ (v ≠ 0 ∧ ok = false ∧ r = 0 ∧ ∀ y, fr ≤ y → f y ≠ v) ∨ (v ≠ 0 ∧ ok = true ∧ fr ≤ r ∧ f r = v ∧ ∀ y, fr ≤ y → y < r → f y ≠ v)

def FindPost (f : Nat → Nat) (fr v : Nat) (w : World) (e : Ending) (w' : World) : Prop :=
  (∃ (r : Nat) (ok : Bool), e = .returned (.tuple #[.int .u64 r, .bool ok]) ∧ FindSays f fr v r ok ∧ r < 18446744073709551616) ∧ Below w.heap.size w w'

theorem FindRel.end_ {w : World} {X : Nat → Prop} {a S n : Nat} {f : Nat → Nat} {mb r : Nat} {pg : Nat → Option Nat} {fr v : Nat} {wr : World} {left : Nat → Bool} {cn B : Nat} (h : Mem w X a S n f mb pg) (hR : FindRel w S n f mb r pg fr v wr left cn B) (hv : v ≠ 0) (hl : ∀ x, x < 18446744073709551616 → left x = false) :
    (B = S → FindSays f fr v 0 false) ∧ (B ≠ S → FindSays f fr v B true) := by
  have hs0 := h.s0
  have hsm : ∀ y, f y = v → y < S := fun y hy => by
    by_cases c : S ≤ y
    · rw [h.out y (Or.inr c)] at hy; exact absurd hy.symm hv
    · omega
  have hno : ∀ y, fr ≤ y → y < B → f y ≠ v := fun y h1 h2 hy => hR.none_ y h1 h2 (hl _ (by have := dn_le y; have := hsm y hy; omega)) hy
  refine ⟨fun e => Or.inr (Or.inl ⟨hv, rfl, rfl, fun y h1 hy => hno y h1 (by rw [e]; exact hsm y hy) hy⟩), fun e => ?_⟩
  have hB : B < S := by have := hR.le; omega
  obtain ⟨q1, q2, _⟩ := hR.hit hB
  exact Or.inr (Or.inr ⟨hv, rfl, q1, q2, hno⟩)

set_option maxRecDepth 100000 in
set_option maxHeartbeats 2000000 in
theorem finds_c {w : World} {X : Nat → Prop} {a S n : Nat} {f : Nat → Nat} (h : MemAt w X a S n f) (fr v : Nat) (hfr : fr < 18446744073709551616) (hv : v < 18446744073709551616) :
    Calls Try.prog 21 #[.pointer (some ⟨a, 0, none⟩), .int .u64 fr, .int .u64 v] w fun e w' => FindPost f fr v w e w' := by
  by_cases hv0 : v = 0
  · subst hv0
    go_enter Try.func21, Try.ntmps21
    go_wp2
    go_ret2
    exact ⟨⟨0, false, rfl, Or.inl ⟨rfl, rfl, rfl⟩, by decide⟩, Below.refl _ _⟩
  · have hvb : ((v : Int) == 0) = false := by simp; omega
    obtain ⟨mb, pg, h⟩ := h
    have c0 := h.c0
    have c1 := h.c1
    have ha : a < w.heap.size := h.xlt _ h.xa
    have hP := h.pgs
    have H1 : Hid (Mem w X a S n f mb pg) := h
    have HV : Hid (v ≠ 0) := hv0
    clear h
    go_enter Try.func21, Try.ntmps21
    go_wp2_with (first
      | (at_range; refine wpList_rangeP _ rfl _ rfl mb n pg rfl hP ?_; intro w9 cnt9 hrg9 hg9 hs9 hcn9)
      | go_in)
    go_frame
    have hR0 : FindRel w S n f mb w.heap.size pg fr v w9 (fun x => (pg x).isSome) cnt9 S := by
      refine ⟨hrg9, hg9, Nat.le_refl _, fun c => absurd c (by omega), fun y _ hy hl => ?_⟩
      have h := H1.out
      by_cases h8 : y % 8 = 0
      · have e : pg (dn y) = none := by
          cases e : pg (dn y) with
          | none => rfl
          | some _ => rw [e] at hl; cases hl
        have := h.zero _ (dn_mod y) e (plc y) (plc_lt y)
        rw [dn_plc h8] at this
        rw [this]; exact fun c => HV.out c.symm
      · rw [h.out y (Or.inl h8)]; exact fun c => HV.out c.symm
    clear hrg9 hg9 hs9 hcn9 hP c1 hvb hv0
    go_loopw [8] (fun t wr => ∃ left cn B, t = .int .u64 (B : Nat) ∧ FindRel w S n f mb w.heap.size pg fr v wr left cn B) (fun _ wr => wr.rangeLeft mb w.heap.size)
    case atStart => exact ⟨_, _, _, rfl, hR0⟩
    case round =>
      clear hR0
      obtain ⟨left, cn, B, rfl, hR⟩ := hrel
      have hrg := hR.rg
      have HR : Hid (FindRel w S n f mb w.heap.size pg fr v wr left cn B) := hR
      have k0 : wr.cell? ⟨a, 0, none⟩ = some (.int .u64 (S : Nat)) := by rw [← c0]; exact hR.bel.cell (p := ⟨a, 0, none⟩) ha
      have hBS := hR.le
      have hs0 := H1.out.s0
      clear hR
      go_wp2_with (first
        | (at_next; refine wpList_nextP _ rfl _ rfl mb w.heap.size n pg left cn rfl hrg ?_ ?_)
        | go_in)
      · intro hl
        have HL : Hid (∀ x, x < 18446744073709551616 → left x = false) := hl
        clear hl hrg
        obtain ⟨e1, e2⟩ := HR.out.end_ H1.out HV.out HL.out
        have E1 := Hid.mk e1
        have E2 := Hid.mk e2
        clear e1 e2
        by_cases hBe : B = S
        · subst hBe
          go_wp2
          go_ret2
          exact ⟨⟨0, false, rfl, E1.out (by trivial), by decide⟩, HR.out.bel⟩
        · have hBi : ¬ ((B : Int) = S) := by omega
          go_wp2
          go_ret2
          exact ⟨⟨B, true, rfl, E2.out hBe, by omega⟩, HR.out.bel⟩
      · intro x c w1 cnt1 hx hlx hpx hrg1 hlt hg1 hs1 hen
        have h := H1.out
        have hR := HR.out
        obtain ⟨p1, p2, p3, p4, _⟩ := h.page x c hpx
        have hbel1 : Below w.heap.size w w1 := hR.bel.trans ⟨hg1.os, hg1.tape, hg1.output, hg1.size, fun i hi => hg1.block i (by have := hR.bel.size; omega) (fun e => by have := Option.some.inj e; omega)⟩
        have hrow : w1.heap[c]? = some (.cells (prow fun i => f (x + 8 * i)) 68 (0, 0)) := by
          rw [hbel1.block c (h.xlt _ p1)]; exact p4
        have HM : Hid (w1.rangeLeft mb w.heap.size < wr.rangeLeft mb w.heap.size) := by
          show _ < _
          rw [hrg1.left_eq, hrg.left_eq]; exact hlt
        have HK : Hid ((∀ j, j < 512 → fr ≤ x + 8 * j → x + 8 * j < B → f (x + 8 * j) ≠ v) → FindRel w S n f mb w.heap.size pg fr v w1 (fun y => left y && !decide (y = x)) cnt1 B) := fun hh => hR.skip h HV.out hrg1 hbel1 hh
        have HT : Hid (∀ k, x < B → k < 512 → f (x + 8 * k) = v → fr ≤ x + 8 * k → (∀ j, j < k → fr ≤ x + 8 * j → f (x + 8 * j) ≠ v) → FindRel w S n f mb w.heap.size pg fr v w1 (fun y => left y && !decide (y = x)) cnt1 (x + 8 * k)) := fun k q1 q2 q3 q4 q5 => hR.take h HV.out hpx hlx hrg1 hbel1 q1 q2 q3 q4 q5
        have hfind := fun s hs => find_c hrow (fun i => h.fl (x + 8 * i)) s v hs hv
        have hxS : x < 4294967296 := by omega
        have hdf := dn_le fr
        have hdm := dn_mod fr
        have hdl := dn_lt fr
        have hdown := down_c fr hfr w1
        generalize dn fr = D at *
        clear h hR hrg hrg1 hlt hg1 hs1 hbel1 p1 p3 p4 hrow hlx hpx k0 c0
        by_cases q1 : B ≤ x
        · have d1 : decide ((B : Int) ≤ x) = true := decide_eq_true (by omega)
          clear hdown hfind
          go_wp2
          go_roundw
          case rel => exact ⟨_, _, _, rfl, HK.out fun j _ _ h3 => by omega⟩
          case measure => exact HM.out
        · have d1 : decide ((B : Int) ≤ x) = false := decide_eq_false (by omega)
          by_cases q2 : x < D
          · have d2 : decide ((x : Int) < D) = true := decide_eq_true (by omega)
            clear hfind
            go_wp2_with fail
            refine hdown.mono ?_
            rintro e w2 ⟨rfl, rfl⟩
            go_wp2
            go_roundw
            case rel => exact ⟨_, _, _, rfl, HK.out fun j _ _ h3 => by omega⟩
            case measure => exact HM.out
          · have d2 : decide ((x : Int) < D) = false := decide_eq_false (by omega)
            have hmx : (max (fr : Int) x - x) = ((max fr x - x : Nat) : Int) := by omega
            have hs4 : max fr x - x ≤ 4096 := by omega
            have hf2 := hfind (max fr x - x) hs4
            have HX : Hid (max fr x - x + x = max fr x) := by
              show _ = _
              omega
            generalize max fr x - x = s at *
            clear hfind
            go_wp2_with fail
            refine hdown.mono ?_
            rintro e w2 ⟨rfl, rfl⟩
            go_wp2_with fail
            refine hf2.mono ?_
            rintro e w2 ⟨r, rfl, hr, rfl⟩
            have hr0 := hr.1
            have hr1 := hr.2.1
            have HRr := Hid.mk hr
            clear hr hf2 hdown
            have hw8 : IntKind.u64.wrap ((r : Int) * 8) = ((8 * r : Nat) : Int) := by
              rw [IntKind.wrap_u64]; omega
            by_cases hr5 : r < 512
            · go_wp2
              go_roundw
              case rel =>
                refine ⟨_, _, x + 8 * r, by go_num, HT.out r (by omega) hr5 (HRr.out.2.2.2 hr5) ?_ fun j hj hfj => HRr.out.2.2.1 j ?_ hj⟩
                · have := HX.out; omega
                · have := HX.out; omega
              case measure => exact HM.out
            · obtain rfl : r = 512 := by omega
              go_wp2
              go_roundw
              case rel =>
                refine ⟨_, _, _, rfl, HK.out fun j hj hfj _ => HRr.out.2.2.1 j ?_ hj⟩
                have := HX.out; omega
              case measure => exact HM.out
end Go.Proofs.Ytiedlkhbbnjkbaa
