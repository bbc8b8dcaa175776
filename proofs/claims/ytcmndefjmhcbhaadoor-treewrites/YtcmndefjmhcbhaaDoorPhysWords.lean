/- Words. -/
import Derived.Test.YtcmndefjmhcbhaaDoorPhysIter
namespace Go.Proofs.YtcmndefjmhcbhaaDoor
open Go.RowKit Go.Maps

/-- How many i below N there are with p i. -/
def cnt (p : Nat → Bool) (N : Nat) : Nat := (List.range N).countP p
theorem cnt_succ (p : Nat → Bool) (N : Nat) : cnt p (N + 1) = cnt p N + (if p N then 1 else 0) := by
  unfold cnt
  rw [List.range_succ, List.countP_append, List.countP_singleton]
theorem cnt_le (p : Nat → Bool) (N : Nat) : cnt p N ≤ N := by
  have := List.countP_le_length (p := p) (l := List.range N)
  simpa [cnt] using this
theorem cnt_congr {p q : Nat → Bool} {N : Nat} (h : ∀ i, i < N → p i = q i) : cnt p N = cnt q N := by
  unfold cnt
  apply List.countP_congr
  intro i hi
  rw [h i (List.mem_range.1 hi)]
theorem cnt_zero {p : Nat → Bool} {N : Nat} (h : ∀ i, i < N → p i = false) : cnt p N = 0 := by
  induction N with
  | zero => rfl
  | succ N ih => rw [cnt_succ, ih (fun i hi => h i (by omega)), h N (by omega)]; rfl
theorem cnt_or {p q : Nat → Bool} : ∀ {N : Nat}, (∀ i, i < N → ¬ (p i = true ∧ q i = true)) → cnt (fun i => p i || q i) N = cnt p N + cnt q N
  | 0, _ => rfl
  | N + 1, h => by
    rw [cnt_succ, cnt_succ, cnt_succ, cnt_or (fun i hi => h i (by omega))]
    have := h N (by omega)
    cases hp : p N <;> cases hq : q N <;> simp_all <;> omega
theorem cnt_add (p : Nat → Bool) (a : Nat) : ∀ m, cnt p (a + m) = cnt p a + cnt (fun j => p (a + j)) m
  | 0 => by simp [cnt]
  | m + 1 => by rw [← Nat.add_assoc, cnt_succ, cnt_add p a m, cnt_succ]; omega
/-- The i of one window. -/
theorem cnt_win (p : Nat → Bool) (a m r : Nat) (h : ∀ i, p i = true → a ≤ i ∧ i < a + m) : cnt p (a + m + r) = cnt (fun j => p (a + j)) m := by
  rw [cnt_add, cnt_add, cnt_zero (N := a) (fun i hi => ?_), cnt_zero (N := r) (fun i hi => ?_)]
  · omega
  · cases hp : p (a + m + i)
    · rfl
    · have := h _ hp; omega
  · cases hp : p i
    · rfl
    · have := h _ hp; omega

/-- How many words aren't 0. -/
def wordsN (f : Nat → Nat) (S : Nat) : Nat := cnt (fun i => f (8 * i) != 0) (S / 8)

/-- .. of the pages that are done. -/
def wordsL (f : Nat → Nat) (S : Nat) (left : Nat → Bool) : Nat := cnt (fun i => f (8 * i) != 0 && !left (dn (8 * i))) (S / 8)

theorem wordsL_le (f : Nat → Nat) (S : Nat) (left : Nat → Bool) : wordsL f S left ≤ S / 8 := cnt_le _ _

theorem wordsL_step {f : Nat → Nat} {S x : Nat} {left : Nat → Bool} (hS : S % 4096 = 0) (hx : x % 4096 = 0) (hxS : x < S) (hl : left x = true) :
    wordsL f S (fun y => left y && !decide (y = x)) = wordsL f S left + cnt (fun j => f (x + 8 * j) != 0) 512 := by
  have h1 : wordsL f S (fun y => left y && !decide (y = x)) = cnt (fun i => (f (8 * i) != 0 && !left (dn (8 * i))) || (f (8 * i) != 0 && decide (dn (8 * i) = x))) (S / 8) := by
    unfold wordsL
    apply cnt_congr
    intro i _
    by_cases e : dn (8 * i) = x
    · rw [e, hl]; simp
    · simp [e]
  rw [h1, cnt_or (fun i _ => ?_)]
  · have e1 : S / 8 = x / 8 + 512 + (S / 8 - x / 8 - 512) := by omega
    have e4 : cnt (fun i => f (8 * i) != 0 && decide (dn (8 * i) = x)) (x / 8 + 512 + (S / 8 - x / 8 - 512)) = cnt (fun j => f (x + 8 * j) != 0) 512 := by
      rw [cnt_win _ (x / 8) 512 _ (fun i hi => ?_)]
      · apply cnt_congr
        intro j hj
        have e2 : 8 * (x / 8 + j) = x + 8 * j := by omega
        have e3 : dn (x + 8 * j) = x := by unfold dn; omega
        rw [e2, e3]; simp
      · simp only [Bool.and_eq_true, decide_eq_true_eq] at hi
        have := hi.2
        unfold dn at this
        omega
    rw [← e1] at e4
    rw [e4]
    rfl
  · rintro ⟨q1, q2⟩
    simp only [Bool.and_eq_true, decide_eq_true_eq, Bool.not_eq_true'] at q1 q2
    rw [q2.2, hl] at q1
    cases q1.2

theorem wordsL_start {w : World} {X : Nat → Prop} {a S n : Nat} {f : Nat → Nat} {mb : Nat} {pg : Nat → Option Nat} (h : Mem w X a S n f mb pg) : wordsL f S (fun x => (pg x).isSome) = 0 := by
  apply cnt_zero
  intro i _
  cases e : pg (dn (8 * i)) with
  | some _ => simp [e]
  | none =>
    have := h.zero _ (dn_mod _) e (plc (8 * i)) (plc_lt _)
    rw [dn_plc (by omega)] at this
    simp [this]

theorem wordsL_end {f : Nat → Nat} {S : Nat} {left : Nat → Bool} (hS : S ≤ 4294967296) (hl : ∀ x, x < 18446744073709551616 → left x = false) : wordsL f S left = wordsN f S := by
  apply cnt_congr
  intro i hi
  have : dn (8 * i) < 18446744073709551616 := by have := dn_le (8 * i); omega
  rw [hl _ this]; simp

/-- What the round of Words keeps. -/
structure WordsRel (w : World) (n : Nat) (mb r : Nat) (pg : Nat → Option Nat) (wr : World) (left : Nat → Bool) (cn : Nat) : Prop where
  rg : PRange wr mb r n pg left cn
  bel : Below r w wr

set_option maxRecDepth 100000 in
set_option maxHeartbeats 2000000 in
theorem words_c {w : World} {X : Nat → Prop} {a S n : Nat} {f : Nat → Nat} (h : MemAt w X a S n f) :
    Calls Tryd.prog 20 #[.pointer (some ⟨a, 0, none⟩)] w fun e w' => e = .returned (.int .i64 (wordsN f S : Nat)) ∧ Below w.heap.size w w' := by
  obtain ⟨mb, pg, h⟩ := h
  have c1 := h.c1
  have hP := h.pgs
  have H1 : Hid (Mem w X a S n f mb pg) := h
  clear h
  go_enter Tryd.func20, Tryd.ntmps20
  go_wp2_with (first
    | (at_range; refine wpList_rangeP _ rfl _ rfl mb n pg rfl hP ?_; intro w9 cnt9 hrg9 hg9 hs9 hcn9)
    | go_in)
  go_frame
  have hR0 : WordsRel w n mb w.heap.size pg w9 (fun x => (pg x).isSome) cnt9 := ⟨hrg9, hg9⟩
  clear hrg9 hg9 hs9 hcn9 hP c1
  go_loopw [3] (fun v wr => ∃ left cn, v = .int .i64 (wordsL f S left : Nat) ∧ WordsRel w n mb w.heap.size pg wr left cn) (fun _ wr => wr.rangeLeft mb w.heap.size)
  case atStart => exact ⟨_, _, by rw [wordsL_start H1.out]; rfl, hR0⟩
  case round =>
    clear hR0
    obtain ⟨left, cn, rfl, hR⟩ := hrel
    have hrg := hR.rg
    have HR : Hid (WordsRel w n mb w.heap.size pg wr left cn) := hR
    clear hR
    go_wp2_with (first
      | (at_next; refine wpList_nextP _ rfl _ rfl mb w.heap.size n pg left cn rfl hrg ?_ ?_)
      | go_in)
    · intro hl
      have HL : Hid (∀ x, x < 18446744073709551616 → left x = false) := hl
      clear hl hrg
      go_wp2
      go_ret
      exact ⟨by rw [← wordsL_end H1.out.s0.2.1 HL.out]; rfl, HR.out.bel⟩
    · intro x c w1 cnt1 hx hlx hpx hrg1 hlt hg1 hs1 hen
      have h := H1.out
      have hR := HR.out
      obtain ⟨p1, p2, p3, p4, _⟩ := h.page x c hpx
      have hs0 := h.s0
      have hbel1 : Below w.heap.size w w1 := hR.bel.trans ⟨hg1.os, hg1.tape, hg1.output, hg1.size, fun i hi => hg1.block i (by have := hR.bel.size; omega) (fun e => by have := Option.some.inj e; omega)⟩
      have hrow : w1.heap[c]? = some (.cells (prow fun i => f (x + 8 * i)) 93 (0, 0)) := by
        rw [hbel1.block c (h.xlt _ p1)]; exact p4
      have HN : Hid (WordsRel w n mb w.heap.size pg w1 (fun y => left y && !decide (y = x)) cnt1 ∧ w1.rangeLeft mb w.heap.size < wr.rangeLeft mb w.heap.size) := ⟨⟨hrg1, hbel1⟩, by rw [hrg1.left_eq, hrg.left_eq]; exact hlt⟩
      have HS : Hid (wordsL f S (fun y => left y && !decide (y = x)) = wordsL f S left + cnt (fun j => f (x + 8 * j) != 0) 512) := wordsL_step hs0.2.2 p2 p3 hlx
      have hbig : wordsL f S left ≤ 536870912 := Nat.le_trans (wordsL_le _ _ _) (by omega)
      have HC : Hid (∀ i, i < 512 → w1.cell? ⟨c, i, none⟩ = some (.int .u64 (f (x + 8 * i) : Nat))) := fun i hi => pcell hrow hi
      have HCt : Hid (∀ k, cnt (fun j => f (x + 8 * j) != 0) (k + 1) = cnt (fun j => f (x + 8 * j) != 0) k + (if f (x + 8 * k) != 0 then 1 else 0)) := fun k => cnt_succ _ k
      have HCl : Hid (∀ k, cnt (fun j => f (x + 8 * j) != 0) k ≤ k) := fun k => cnt_le _ k
      have HC0 : Hid (cnt (fun j => f (x + 8 * j) != 0) 0 = 0) := rfl
      generalize wordsL f S left = N0 at *
      generalize cnt (fun j => f (x + 8 * j) != 0) = CT at *
      clear h hR hrg hrg1 hlt hg1 hs1 hbel1 p1 p2 p3 p4 hrow hs0 hlx hpx
      go_wp2
      go_loop [3, 18] (fun v i => ∃ k : Nat, k ≤ 512 ∧ i = .int .i64 k ∧ v = .int .i64 ((N0 + CT k : Nat) : Int)) (fun _ i => 512 - (intOf i).toNat)
      case atStart => exact ⟨0, by omega, rfl, by rw [HC0.out]; rfl⟩
      case round =>
        obtain ⟨k, hk, rfl, rfl⟩ := hrel
        have hcl := HCl.out k
        by_cases hlt : k < 512
        · have hc := HC.out k hlt
          have hct := HCt.out k
          by_cases hz : f (x + 8 * k) = 0
          · have HE : Hid (CT (k + 1) = CT k) := by
              show CT (k + 1) = CT k
              rw [hct, hz]; rfl
            rw [hz] at hc
            clear hct hz
            go_wp2
            refine ⟨⟨k + 1, by omega, by go_num, by rw [HE.out]⟩, by simp [intOf]; omega⟩
          · have HE : Hid (CT (k + 1) = CT k + 1) := by
              show CT (k + 1) = CT k + 1
              rw [hct, if_pos (by simpa using hz)]
            have hzi : ¬ ((f (x + 8 * k) : Int) = 0) := by omega
            generalize f (x + 8 * k) = fv at *
            clear hct hz
            go_wp2
            refine ⟨⟨k + 1, by omega, by go_num, ?_⟩, by simp [intOf]; omega⟩
            rw [HE.out]
            go_num
        · obtain rfl : k = 512 := by omega
          go_wp2
          go_roundw
          case rel => exact ⟨_, _, by rw [HS.out], HN.out.1⟩
          case measure => exact HN.out.2
end Go.Proofs.YtcmndefjmhcbhaaDoor
