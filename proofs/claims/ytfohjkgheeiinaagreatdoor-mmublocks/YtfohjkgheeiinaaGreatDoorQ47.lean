/- Texts: PhysIter PhysWords MmYG -/
import Derived.Test.YtfohjkgheeiinaaGreatDoorQ46
set_option maxHeartbeats 16000000
set_option maxRecDepth 100000
namespace Go.Proofs.YtfohjkgheeiinaaGreatDoor
open Go.RowKit Go.Maps
section
variable (w : World) {ops : Array Oper} {rest : List Oper} {o : Oper} {a : Act} {Q : Exit → Act → World → Prop}
theorem wpList_rangeP (hg : o.guard = none) (m : Operand) (hop : o.op = Op.range 142 m) (mb n : Nat) (pg : Nat → Option Nat) (hm : a.eval m = .map (some mb)) (h : Pages w mb n pg)
  (hK : ∀ w' cnt, PRange w' mb w.heap.size n pg (fun x => (pg x).isSome) cnt → Below w.heap.size w w' → w'.heap.size = w.heap.size + 1 → cnt ≤ n → wpList Tryz.prog ops Q rest (a.put o.dst (.pointer (some ⟨w.heap.size, 0, none⟩))) w') :
  wpList Tryz.prog ops Q (o :: rest) a w := by
 obtain ⟨w', cnt, hrun, h1, h2, h3, h4⟩ := h.range
 refine Great.wpList_runTo hg _ rfl (.pointer (some ⟨w.heap.size, 0, none⟩)) w' ?_ (hK w' cnt h1 ⟨h2.os, h2.tape, h2.output, h2.size, fun k hk => h2.block k hk (by simp)⟩ h3 h4)
 simp [execOp, hop, hm, hrun, Result.andThen]
theorem wpList_nextP (hg : o.guard = none) (it : Operand) (hop : o.op = Op.next it false) (mb r n : Nat) (pg : Nat → Option Nat) (left : Nat → Bool) (cnt : Nat) (hit : a.eval it = .pointer (some ⟨r, 0, none⟩)) (h : PRange w mb r n pg left cnt)
  (hDone : (∀ x, x < 18446744073709551616 → left x = false) → wpList Tryz.prog ops Q rest (a.put o.dst (.tuple #[.bool false])) w)
  (hMore : ∀ x b w' cnt', x < 18446744073709551616 → left x = true → pg x = some b → PRange w' mb r n pg (fun y => left y && !decide (y = x)) cnt' → cnt' < cnt → w.grownBy w' (some r) → w'.heap.size = w.heap.size →
   (Instr.entry (.pointer (some ⟨r, 0, none⟩))).run Tryz.prog w' = .ok (.tuple #[.int .u64 x, .pointer (some ⟨b, 0, none⟩)]) w' →
   wpList Tryz.prog ops Q rest (a.put o.dst (.tuple #[.bool true, .int .u64 x, .pointer (some ⟨b, 0, none⟩)])) w') :
  wpList Tryz.prog ops Q (o :: rest) a w := by
 rcases h.next o.type with ⟨hl, hrun⟩ | ⟨x, b, w', cnt', h1, h2, h3, hrun, h4, h5, h6, h7, h8⟩
 ·refine Great.wpList_runTo hg _ rfl (.tuple #[.bool false]) w ?_ (hDone hl)
  simp [execOp, hop, hit, hrun, Result.andThen]
 ·refine Great.wpList_runTo hg _ rfl (.tuple #[.bool true, .int .u64 x, .pointer (some ⟨b, 0, none⟩)]) w' ?_ (hMore x b w' cnt' h1 h2 h3 h4 h5 h6 h7 h8)
  simp [execOp, hop, hit, hrun, Result.andThen]
end
section
variable {P : Program} {ops : Array Oper} {rest : List Oper} {o : Oper} {a : Act} {C : World → Prop} {Q : Act → Prop}
end
end Go.Proofs.YtfohjkgheeiinaaGreatDoor
namespace Go.Proofs.YtfohjkgheeiinaaGreatDoor
open Go.RowKit Go.Maps
def cnt (p : Nat → Bool) (N : Nat) : Nat := (List.range N).countP p
theorem cnt_succ (p : Nat → Bool) (N : Nat) : cnt p (N + 1) = cnt p N + (if p N then 1 else 0) := by
 unfold cnt
 rw [List.range_succ, List.countP_append, List.countP_singleton]
theorem cnt_le (p : Nat → Bool) (N : Nat) : cnt p N ≤ N := by
 have := List.countP_le_length (p := p) (l := List.range N)
 simpa [cnt] using this
theorem cnt_congr {p q : Nat → Bool} {N : Nat} (h : ∀ i, i < N → p i = q i) : cnt p N = cnt q N := by
 unfold cnt
 apply List.countP_congr
 intro i hi
 rw [h i (List.mem_range.1 hi)]
theorem cnt_zero {p : Nat → Bool} {N : Nat} (h : ∀ i, i < N → p i = false) : cnt p N = 0 := by
 induction N with
 | zero => rfl
 | succ N ih => rw [cnt_succ, ih (fun i hi => h i (by omega)), h N (by omega)]; rfl
theorem cnt_or {p q : Nat → Bool} : ∀ {N : Nat}, (∀ i, i < N → ¬ (p i = true ∧ q i = true)) → cnt (fun i => p i || q i) N = cnt p N + cnt q N
 | 0, _ => rfl
 | N + 1, h => by
  rw [cnt_succ, cnt_succ, cnt_succ, cnt_or (fun i hi => h i (by omega))]
  have := h N (by omega)
  cases hp : p N <;> cases hq : q N <;> simp_all <;> omega
theorem cnt_add (p : Nat → Bool) (a : Nat) : ∀ m, cnt p (a + m) = cnt p a + cnt (fun j => p (a + j)) m
 | 0 => by simp [cnt]
 | m + 1 => by rw [← Nat.add_assoc, cnt_succ, cnt_add p a m, cnt_succ]; omega
theorem cnt_win (p : Nat → Bool) (a m r : Nat) (h : ∀ i, p i = true → a ≤ i ∧ i < a + m) : cnt p (a + m + r) = cnt (fun j => p (a + j)) m := by
 rw [cnt_add, cnt_add, cnt_zero (N := a) (fun i hi => ?_), cnt_zero (N := r) (fun i hi => ?_)]
 ·omega
 ·cases hp : p (a + m + i)
  ·rfl
  ·have := h _ hp; omega
 ·cases hp : p i
  ·rfl
  ·have := h _ hp; omega
def wordsN (f : Nat → Nat) (S : Nat) : Nat := cnt (fun i => f (8 * i) != 0) (S / 8)
def wordsL (f : Nat → Nat) (S : Nat) (left : Nat → Bool) : Nat := cnt (fun i => f (8 * i) != 0 && !left (dn (8 * i))) (S / 8)
theorem wordsL_le (f : Nat → Nat) (S : Nat) (left : Nat → Bool) : wordsL f S left ≤ S / 8 := cnt_le _ _
theorem wordsL_step {f : Nat → Nat} {S x : Nat} {left : Nat → Bool} (hS : S % 4096 = 0) (hx : x % 4096 = 0) (hxS : x < S) (hl : left x = true) :
  wordsL f S (fun y => left y && !decide (y = x)) = wordsL f S left + cnt (fun j => f (x + 8 * j) != 0) 512 := by
 have h1 : wordsL f S (fun y => left y && !decide (y = x)) = cnt (fun i => (f (8 * i) != 0 && !left (dn (8 * i))) || (f (8 * i) != 0 && decide (dn (8 * i) = x))) (S / 8) := by
  unfold wordsL
  apply cnt_congr
  intro i _
  by_cases e : dn (8 * i) = x
  ·rw [e, hl]; simp
  ·simp [e]
 rw [h1, cnt_or (fun i _ => ?_)]
 ·have e1 : S / 8 = x / 8 + 512 + (S / 8 - x / 8 - 512) := by omega
  have e4 : cnt (fun i => f (8 * i) != 0 && decide (dn (8 * i) = x)) (x / 8 + 512 + (S / 8 - x / 8 - 512)) = cnt (fun j => f (x + 8 * j) != 0) 512 := by
   rw [cnt_win _ (x / 8) 512 _ (fun i hi => ?_)]
   ·apply cnt_congr
    intro j hj
    have e2 : 8 * (x / 8 + j) = x + 8 * j := by omega
    have e3 : dn (x + 8 * j) = x := by unfold dn; omega
    rw [e2, e3]; simp
   ·simp only [Bool.and_eq_true, decide_eq_true_eq] at hi
    have := hi.2
    unfold dn at this
    omega
  rw [← e1] at e4
  rw [e4]
  rfl
 ·rintro ⟨q1, q2⟩
  simp only [Bool.and_eq_true, decide_eq_true_eq, Bool.not_eq_true'] at q1 q2
  rw [q2.2, hl] at q1
  cases q1.2
theorem wordsL_start {w : World} {X : Nat → Prop} {a S n : Nat} {f : Nat → Nat} {mb : Nat} {pg : Nat → Option Nat} (h : Mem w X a S n f mb pg) : wordsL f S (fun x => (pg x).isSome) = 0 := by
 apply cnt_zero
 intro i _
 cases e : pg (dn (8 * i)) with
 | some _ => simp [e]
 | none =>
  have := h.zero _ (dn_mod _) e (plc (8 * i)) (plc_lt _)
  rw [dn_plc (by omega)] at this
  simp [this]
theorem wordsL_end {f : Nat → Nat} {S : Nat} {left : Nat → Bool} (hS : S ≤ 4294967296) (hl : ∀ x, x < 18446744073709551616 → left x = false) : wordsL f S left = wordsN f S := by
 apply cnt_congr
 intro i hi
 have : dn (8 * i) < 18446744073709551616 := by have := dn_le (8 * i); omega
 rw [hl _ this]; simp
structure WordsRel (w : World) (n : Nat) (mb r : Nat) (pg : Nat → Option Nat) (wr : World) (left : Nat → Bool) (cn : Nat) : Prop where
 rg : PRange wr mb r n pg left cn
 bel : Below r w wr
theorem words_c {w : World} {X : Nat → Prop} {a S n : Nat} {f : Nat → Nat} (h : MemAt w X a S n f) :
  Calls Tryz.prog 36 #[.pointer (some ⟨a, 0, none⟩)] w fun e w' => e = .returned (.int .i64 (wordsN f S : Nat)) ∧ Below w.heap.size w w' := by
 obtain ⟨mb, pg, h⟩ := h
 have c1 := h.c1
 have hP := h.pgs
 have H1 : Hid (Mem w X a S n f mb pg) := h
 clear h
 go_enter Tryz.func36, Tryz.ntmps36
 go_wp2_with (first
  | (at_range; refine wpList_rangeP _ rfl _ rfl mb n pg rfl hP ?_; intro w9 cnt9 hrg9 hg9 hs9 hcn9)
  | go_in)
 go_frame
 have hR0 : WordsRel w n mb w.heap.size pg w9 (fun x => (pg x).isSome) cnt9 := ⟨hrg9, hg9⟩
 clear hrg9 hg9 hs9 hcn9 hP c1
 go_loopw [3] (fun v wr => ∃ left cn, v = .int .i64 (wordsL f S left : Nat) ∧ WordsRel w n mb w.heap.size pg wr left cn) (fun _ wr => wr.rangeLeft mb w.heap.size)
 case atStart => exact ⟨_, _, by rw [wordsL_start H1.out]; rfl, hR0⟩
 case round =>
  clear hR0
  obtain ⟨left, cn, rfl, hR⟩ := hrel
  have hrg := hR.rg
  have HR : Hid (WordsRel w n mb w.heap.size pg wr left cn) := hR
  clear hR
  go_wp2_with (first
   | (at_next; refine wpList_nextP _ rfl _ rfl mb w.heap.size n pg left cn rfl hrg ?_ ?_)
   | go_in)
  ·intro hl
   have HL : Hid (∀ x, x < 18446744073709551616 → left x = false) := hl
   clear hl hrg
   go_wp2
   go_ret
   exact ⟨by rw [← wordsL_end H1.out.s0.2.1 HL.out]; rfl, HR.out.bel⟩
  ·intro x c w1 cnt1 hx hlx hpx hrg1 hlt hg1 hs1 hen
   have h := H1.out
   have hR := HR.out
   obtain ⟨p1, p2, p3, p4, _⟩ := h.page x c hpx
   have hs0 := h.s0
   have hbel1 : Below w.heap.size w w1 := hR.bel.trans ⟨hg1.os, hg1.tape, hg1.output, hg1.size, fun i hi => hg1.block i (by have := hR.bel.size; omega) (fun e => by have := Option.some.inj e; omega)⟩
   have hrow : w1.heap[c]? = some (.cells (prow fun i => f (x + 8 * i)) 171 (0, 0)) := by
    rw [hbel1.block c (h.xlt _ p1)]; exact p4
   have HN : Hid (WordsRel w n mb w.heap.size pg w1 (fun y => left y && !decide (y = x)) cnt1 ∧ w1.rangeLeft mb w.heap.size < wr.rangeLeft mb w.heap.size) := ⟨⟨hrg1, hbel1⟩, by rw [hrg1.left_eq, hrg.left_eq]; exact hlt⟩
   have HS : Hid (wordsL f S (fun y => left y && !decide (y = x)) = wordsL f S left + cnt (fun j => f (x + 8 * j) != 0) 512) := wordsL_step hs0.2.2 p2 p3 hlx
   have hbig : wordsL f S left ≤ 536870912 := Nat.le_trans (wordsL_le _ _ _) (by omega)
   have HC : Hid (∀ i, i < 512 → w1.cell? ⟨c, i, none⟩ = some (.int .u64 (f (x + 8 * i) : Nat))) := fun i hi => pcell hrow hi
   have HCt : Hid (∀ k, cnt (fun j => f (x + 8 * j) != 0) (k + 1) = cnt (fun j => f (x + 8 * j) != 0) k + (if f (x + 8 * k) != 0 then 1 else 0)) := fun k => cnt_succ _ k
   have HCl : Hid (∀ k, cnt (fun j => f (x + 8 * j) != 0) k ≤ k) := fun k => cnt_le _ k
   have HC0 : Hid (cnt (fun j => f (x + 8 * j) != 0) 0 = 0) := rfl
   generalize wordsL f S left = N0 at *
   generalize cnt (fun j => f (x + 8 * j) != 0) = CT at *
   clear h hR hrg hrg1 hlt hg1 hs1 hbel1 p1 p2 p3 p4 hrow hs0 hlx hpx
   go_wp2
   go_loop [3, 18] (fun v i => ∃ k : Nat, k ≤ 512 ∧ i = .int .i64 k ∧ v = .int .i64 ((N0 + CT k : Nat) : Int)) (fun _ i => 512 - (intOf i).toNat)
   case atStart => exact ⟨0, by omega, rfl, by rw [HC0.out]; rfl⟩
   case round =>
    obtain ⟨k, hk, rfl, rfl⟩ := hrel
    have hcl := HCl.out k
    by_cases hlt : k < 512
    ·have hc := HC.out k hlt
     have hct := HCt.out k
     by_cases hz : f (x + 8 * k) = 0
     ·have HE : Hid (CT (k + 1) = CT k) := by
       show CT (k + 1) = CT k
       rw [hct, hz]; rfl
      rw [hz] at hc
      clear hct hz
      go_wp2
      refine ⟨⟨k + 1, by omega, by go_num, by rw [HE.out]⟩, by simp [intOf]; omega⟩
     ·have HE : Hid (CT (k + 1) = CT k + 1) := by
       show CT (k + 1) = CT k + 1
       rw [hct, if_pos (by simpa using hz)]
      have hzi : ¬ ((f (x + 8 * k) : Int) = 0) := by omega
      generalize f (x + 8 * k) = fv at *
      clear hct hz
      go_wp2
      refine ⟨⟨k + 1, by omega, by go_num, ?_⟩, by simp [intOf]; omega⟩
      rw [HE.out]
      go_num
    ·obtain rfl : k = 512 := by omega
     go_wp2
     go_roundw
     case rel => exact ⟨_, _, by rw [HS.out], HN.out.1⟩
     case measure => exact HN.out.2
end Go.Proofs.YtfohjkgheeiinaaGreatDoor
namespace Go.Proofs.YtfohjkgheeiinaaGreatDoor.MM
open Go.RowKit Go.Maps
theorem asc_eqy {l l' : List Nat} (h : l.Pairwise (fun a b => a < b)) (h' : l'.Pairwise (fun a b => a < b)) (hm : ∀ x, x ∈ l ↔ x ∈ l') : l = l' := by
 have n1 : l.Nodup := h.imp fun h => Nat.ne_of_lt h
 have n2 : l'.Nodup := h'.imp fun h => Nat.ne_of_lt h
 exact List.Perm.eq_of_pairwise (le := fun a b => a < b) (fun a b _ _ h1 h2 => by omega) h h' ((List.perm_ext_iff_of_nodup n1 n2).2 hm)
theorem ref_words {L : WL} {f : Nat → Nat} (h : Ref L f) {S : Nat} (hS : S % 8 = 0) (ho : ∀ x, (x % 8 ≠ 0 ∨ S ≤ x) → f x = 0) : wordsN f S = L.length := by
 have h1 : L.map (·.1) = ((List.range (S / 8)).filter (fun i => f (8 * i) != 0)).map (fun i => 8 * i) := by
  refine asc_eqy ?_ ?_ ?_
  ·rw [List.pairwise_map]; exact h.1
  ·rw [List.pairwise_map]
   refine List.Pairwise.imp ?_ (List.Pairwise.filter _ List.pairwise_lt_range)
   intro a b hab
   show 8 * a < 8 * b
   omega
  ·intro x
   rw [List.mem_map, List.mem_map]
   constructor
   ·rintro ⟨⟨y, z⟩, hm, rfl⟩
    obtain ⟨rfl, h0⟩ := (h.2 y z).1 hm
    have h8 : y % 8 = 0 := Classical.byContradiction fun c => h0 (ho y (Or.inl c))
    have hl : y < S := Classical.byContradiction fun c => h0 (ho y (Or.inr (by omega)))
    refine ⟨y / 8, List.mem_filter.2 ⟨List.mem_range.2 (by omega), ?_⟩, by show 8 * (y / 8) = y; omega⟩
    have e : 8 * (y / 8) = y := by omega
    rw [e]
    simpa using h0
   ·rintro ⟨i, hi, rfl⟩
    obtain ⟨_, hi2⟩ := List.mem_filter.1 hi
    exact ⟨(8 * i, f (8 * i)), (h.2 _ _).2 ⟨rfl, by simpa using hi2⟩, rfl⟩
 have h2 := congrArg List.length h1
 rw [List.length_map, List.length_map] at h2
 rw [h2]
 unfold wordsN cnt
 rw [List.countP_eq_length_filter]
theorem nE_same (b0 : Int) (b1 : Nat) (b2 b3 : Int) (b4 : Nat) (b5 b6 b7 b8 : Bool) (b9 : Int) (w : World) : (binOp .neq 100 (.agg #[.int .i64 b0, .int .u64 b1, .int .i64 b2, .int .i64 b3, .int .u64 b4, .bool b5, .bool b6, .bool b7, .bool b8, .int .i64 b9]) (.agg #[.int .i64 b0, .int .u64 b1, .int .i64 b2, .int .i64 b3, .int .u64 b4, .bool b5, .bool b6, .bool b7, .bool b8, .int .i64 b9])).run Tryz.prog w = .ok (.bool false) w := by
 first | (go_simp; done) | (go_simp <;> simp_all)
theorem nK_same (b0 : Int) (b1 : Nat) (b2 : Int) (b3 : Nat) (w : World) : (binOp .neq 103 (.agg #[.int .i64 b0, .int .u64 b1, .int .i64 b2, .int .u64 b3]) (.agg #[.int .i64 b0, .int .u64 b1, .int .i64 b2, .int .u64 b3])).run Tryz.prog w = .ok (.bool false) w := by
 first | (go_simp; done) | (go_simp <;> simp_all)
theorem or_reg (R I : Nat) (hR : R < 281474976710656) (hI : I ≤ 255) : bits .or .u64 (R : Int) (IntKind.u64.wrap ((I : Int) * 281474976710656)) = ((R + I * 281474976710656 : Nat) : Int) := by
 have e : IntKind.u64.wrap ((I : Int) * 281474976710656) = ((I * 281474976710656 : Nat) : Int) := by rw [IntKind.wrap_u64]; omega
 rw [e, bits_or_u64_nat _ _ (by omega) (by omega)]
 have h2 : R ||| I * 281474976710656 = R + I * 281474976710656 := by
  have := Nat.two_pow_add_eq_or_of_lt (i := 48) (b := R) hR I
  rw [show (2 : Nat) ^ 48 = 281474976710656 by decide, Nat.mul_comm] at this
  rw [Nat.or_comm, ← this, Nat.add_comm]
 rw [h2]
section
variable {w0 w : World} {XX B : Nat → Prop} {x a n m S : Nat} {most : Int} {s : St} {d : Yd}
theorem same_c (h : Mch w0 w XX x a n S most s) (hy : YOk w B m s d) (hf : Fm S s.f) (hm : m < 1000000) :
  Calls Tryz.prog 8 #[.pointer (some ⟨x, 0, none⟩), .agg (d.cs S most s)] w fun r w' => r = .returned (.bool true) ∧ Below w.heap.size w w' := by
 have hw := h.wfm
 have HSN : Hid (∀ W, Below w.heap.size w W → Calls Tryz.prog 16 #[.pointer (some ⟨x, 0, none⟩)] W fun r w' => r = .returned (.bool (sndB S s)) ∧ Below W.heap.size W w') := Hid.mk (fun W hb => sound_c (h.later hb))
 have HYS : Hid (∀ W, Below w.heap.size w W → Calls Tryz.prog 35 #[.agg (d.cs S most s)] W fun r w' => r = .returned (.bool (sndB S s)) ∧ Below W.heap.size W w') := Hid.mk (fun W hb => ysound_c (hy.later hb) hf hw hm)
 have HMM : Hid (∀ W, Below w.heap.size w W → Calls Tryz.prog 14 #[.pointer (some ⟨x, 0, none⟩)] W fun r w' => r = .returned (.pointer (some ⟨a, 0, none⟩)) ∧ Below W.heap.size W w') := Hid.mk (fun W hb => (memory_c (h.later hb)).mono (fun r w' hh => ⟨hh.1, by rw [← hh.2]; exact Below.refl _ _⟩))
 have HEN : Hid (∀ W, Below w.heap.size w W → Calls Tryz.prog 33 #[.pointer (some ⟨x, 0, none⟩)] W fun r w' => ∃ ad cap, r = .returned (.slice ad s.E.length cap) ∧ TB.RdA w' ad s.E ∧ (∀ b, ad = some b → W.heap.size ≤ b.block) ∧ Below W.heap.size W w') := Hid.mk (fun W hb => entries_c (h.later hb))
 have HMK : Hid (∀ W, Below w.heap.size w W → Calls Tryz.prog 34 #[.pointer (some ⟨x, 0, none⟩)] W fun r w' => ∃ ad cap, r = .returned (.slice ad s.K.length cap) ∧ TR.RdA w' ad s.K ∧ (∀ b, ad = some b → W.heap.size ≤ b.block) ∧ Below W.heap.size W w') := Hid.mk (fun W hb => marks_c (h.later hb))
 have HRG : Hid (∀ W, Below w.heap.size w W → Calls Tryz.prog 38 #[.pointer (some ⟨x, 0, none⟩)] W fun r w' => r = .returned (.tuple #[.int .u64 (regW s.rg : Nat), .bool s.rg.isSome]) ∧ Below W.heap.size W w') := Hid.mk (fun W hb => register_c (h.later hb))
 have hS8 : S % 8 = 0 := by
  obtain ⟨XM, XB, XT, tb, tr, pv, h⟩ := h
  obtain ⟨mb, pg, hmm⟩ := h.mem
  have := hmm.s0
  omega
 have hout : ∀ y, (y % 8 ≠ 0 ∨ S ≤ y) → s.f y = 0 := fun y hq => hf.outs y (by unfold errA; split; decide; rw [if_pos (by omega)]; decide)
 have HWD : Hid (∀ W, Below w.heap.size w W → Calls Tryz.prog 36 #[.pointer (some ⟨a, 0, none⟩)] W fun r w' => r = .returned (.int .i64 (d.L.length : Nat)) ∧ Below W.heap.size W w') := Hid.mk (fun W hb => by
  obtain ⟨XM, XB, XT, tb, tr, pv, h⟩ := h.later hb
  have := words_c h.mem
  rw [ref_words hy.ref hS8 hout] at this
  exact this)
 have HRD : Hid (∀ i, i < d.L.length → ∀ W, Below w.heap.size w W → Calls Tryz.prog 37 #[.pointer (some ⟨a, 0, none⟩), .int .u64 (d.L[i]!.1 : Nat)] W fun r w' => r = .returned (.tuple #[.int .u64 (d.L[i]!.2 : Nat), .int .i64 0]) ∧ Below W.heap.size W w') := Hid.mk (fun i hi W hb => by
  obtain ⟨XM, XB, XT, tb, tr, pv, h⟩ := h.later hb
  obtain ⟨e1, e2⟩ := hy.ref.mem hi
  have e3 : errA S d.L[i]!.1 = 0 := Classical.byContradiction fun c => e2 (e1.trans (hf.outs _ c))
  have hlt : d.L[i]!.1 < 18446744073709551616 := by
   have := hf.hS
   unfold errA at e3
   split at e3
   ·exact absurd e3 (by decide)
   ·split at e3
    ·exact absurd e3 (by decide)
    ·omega
  have := read_c h.mem _ hlt
  rw [e3, ← e1] at this
  exact this)
 have HRE := Hid.mk hy.re.rd
 have HRK := Hid.mk hy.rk.rd
 obtain ⟨pW, cW, hvm, hcW⟩ := hy.psl.form
 have HPW := Hid.mk hcW
 have HON : Hid (d.on = s.rg.isSome) := Hid.mk hy.on
 have HRI : Hid (∀ R I, s.rg = some (R, I) → d.R = R ∧ d.I = I) := Hid.mk hy.rg
 have HRR : Hid (∀ R I, s.rg = some (R, I) → R < 281474976710656 ∧ I ≤ 255) := Hid.mk (fun R I hq => ⟨(hw.rr R I hq).1, (hw.rr R I hq).2.2⟩)
 have hlE : (s.E.length : Int) ≤ 64 := by have := hw.el; have := hw.m64; omega
 have hlK : (s.K.length : Int) ≤ 64 := by have := hw.kl; have := hw.m64; omega
 have hlL : (d.L.length : Int) < 1000000 := by have := hy.len; omega
 clear h hy hf hm hw hS8 hout hcW
 obtain ⟨vm, L, aE, cE, aK, cK, aP, cP, on, R, I⟩ := d
 dsimp only at hvm HRE HRK HON HRI HPW HWD HRD hlL
 subst hvm
 generalize sndB S s = SB at *
 have g0 := heap_alloc_new w (.cells #[.int .u64 S, .slice pW L.length cW, .int .i64 most, .slice aE s.E.length cE, .slice aK s.K.length cK, .bool on, .int .u64 R, .int .i64 I, .slice aP s.P.length cP] 34)
 have hB := below_new w (.cells #[.int .u64 S, .slice pW L.length cW, .int .i64 most, .slice aE s.E.length cE, .slice aK s.K.length cK, .bool on, .int .u64 R, .int .i64 I, .slice aP s.P.length cP] 34)
 go_enter Tryz.func8, Tryz.ntmps8
 go_upto_region 1 with fail
 generalize w.alloc (.cells #[.int .u64 S, .slice pW L.length cW, .int .i64 most, .slice aE s.E.length cE, .slice aK s.K.length cK, .bool on, .int .u64 R, .int .i64 I, .slice aP s.P.length cP] 34) = W1 at *
 go_wp2_with fail
 refine (HEN.out _ hB).mono ?_
 rintro e w2 ⟨ad, cap, rfl, hes, -, hb2⟩
 replace hB := below_tr hB hb2
 replace g0 := block_later hb2 g0
 go_wp2_with fail
 refine (HMK.out _ hB).mono ?_
 rintro e w3 ⟨ad2, cap2, rfl, hks, -, hb3⟩
 replace hB := below_tr hB hb3
 replace g0 := block_later hb3 g0
 replace hes := hes.later hb3
 have HES := Hid.mk hes
 have HKS := Hid.mk hks
 clear hb2 hb3 HEN HMK hes hks
 obtain ⟨c0, c1, c2, c3, c4, c5, c6, c7, c8⟩ := cells9y g0
 go_upto_region 2 with fail
 have HB3 := Hid.mk hB
 go_cut [51] (fun t wc => t = .bool false ∧ Below w3.heap.size w3 wc)
 case first =>
  go_region_held3 (fun w' => (w'.cell? ⟨w.heap.size, 0, none⟩ = some (.int .u64 S) ∧ w'.cell? ⟨w.heap.size, 1, none⟩ = some (.slice pW L.length cW) ∧ w'.cell? ⟨w.heap.size, 2, none⟩ = some (.int .i64 most) ∧ w'.cell? ⟨w.heap.size, 3, none⟩ = some (.slice aE s.E.length cE) ∧ w'.cell? ⟨w.heap.size, 4, none⟩ = some (.slice aK s.K.length cK) ∧ w'.cell? ⟨w.heap.size, 5, none⟩ = some (.bool on) ∧ w'.cell? ⟨w.heap.size, 6, none⟩ = some (.int .u64 R) ∧ w'.cell? ⟨w.heap.size, 7, none⟩ = some (.int .i64 I) ∧ w'.cell? ⟨w.heap.size, 8, none⟩ = some (.slice aP s.P.length cP)) ∧ Below w3.heap.size w3 w')
   ((go_split_ands; refine ⟨⟨?_, ?_, ?_, ?_, ?_, ?_, ?_, ?_, ?_⟩, ?_⟩ <;> first | (with_reducible assumption; done) | with_reducible exact cell_later hbm (by assumption) | with_reducible exact below_tr (by assumption) hbm | exact (Below.refl _ _).drew | exact cell_later (Below.refl _ _).drew (by assumption) | (go_keep; done)))
   (first
    | (go_at_call 16; refine (HSN.out _ (below_tr HB3.out (by go_split_ands; assumption))).mono ?_; rintro e w' ⟨rfl, hbm⟩)
    | (go_at_call 35; refine (HYS.out _ (below_tr HB3.out (by go_split_ands; assumption))).mono ?_; rintro e w' ⟨rfl, hbm⟩)
    | (go_at_call 14; refine (HMM.out _ (below_tr HB3.out (by go_split_ands; assumption))).mono ?_; rintro e w' ⟨rfl, hbm⟩)
    | (go_at_call 36; refine (HWD.out _ (below_tr HB3.out (by go_split_ands; assumption))).mono ?_; rintro e w' ⟨rfl, hbm⟩))
  all_goals
   go_wp2
   go_meet
   exact ⟨by simp, by go_split_ands; assumption⟩
 case rest =>
 obtain ⟨rfl, hbc⟩ := hcut
 replace g0 := block_later hbc g0
 replace HES := Hid.mk (HES.out.later hbc)
 replace HKS := Hid.mk (HKS.out.later hbc)
 have HBc := Hid.mk (below_tr HB3.out hbc)
 have HG := Hid.mk g0
 clear c0 c1 c2 c3 c4 c5 c6 c7 c8 hbc HB3 hB g0 HSN HYS HWD
 go_wp2
 go_loopw [7, 8, 54] (fun _ _ s54 wr => ∃ i : Nat, i ≤ s.E.length ∧ s54 = .int .i64 i ∧ Below wc.heap.size wc wr) (fun _ _ s54 _ => s.E.length - (RowKit.intOf s54).toNat)
 case atStart => exact ⟨0, by omega, rfl, Below.refl _ _⟩
 case round =>
  obtain ⟨i, hi, rfl, hb⟩ := hrel
  have HB := Hid.mk hb
  have HBw := Hid.mk (below_tr HBc.out hb)
  have g0 := block_later hb HG.out
  by_cases hlt : i < s.E.length
  ·have hlt2 : (i : Int) < s.E.length := by omega
   have HLT := Hid.mk hlt
   have hib : (i : Int) < 64 := by omega
   obtain ⟨g, oo, rfl, hg, hc⟩ := HES.out i hlt
   obtain ⟨g', oo', hq, hg', hc'⟩ := HRE.out i hlt
   (try dsimp only at hq)
   have d0 := cell_later hb (hc 0 _ rfl)
   have d1 := cell_later hb (hc 1 _ rfl)
   have d2 := cell_later hb (hc 2 _ rfl)
   have d3 := cell_later hb (hc 3 _ rfl)
   have d4 := cell_later hb (hc 4 _ rfl)
   have d5 := cell_later hb (hc 5 _ rfl)
   have d6 := cell_later hb (hc 6 _ rfl)
   have d7 := cell_later hb (hc 7 _ rfl)
   have d8 := cell_later hb (hc 8 _ rfl)
   have d9 := cell_later hb (hc 9 _ rfl)
   have f0 := cell_later HBw.out (hc' 0 _ rfl)
   have f1 := cell_later HBw.out (hc' 1 _ rfl)
   have f2 := cell_later HBw.out (hc' 2 _ rfl)
   have f3 := cell_later HBw.out (hc' 3 _ rfl)
   have f4 := cell_later HBw.out (hc' 4 _ rfl)
   have f5 := cell_later HBw.out (hc' 5 _ rfl)
   have f6 := cell_later HBw.out (hc' 6 _ rfl)
   have f7 := cell_later HBw.out (hc' 7 _ rfl)
   have f8 := cell_later HBw.out (hc' 8 _ rfl)
   have f9 := cell_later HBw.out (hc' 9 _ rfl)
   rw [Nat.add_zero] at d0 f0
   have hne := fun W => nE_same (TB.gE s.E i).aid (TB.gE s.E i).va (TB.gE s.E i).lv (TB.gE s.E i).k (TB.gE s.E i).o (TB.gE s.E i).u (TB.gE s.E i).r (TB.gE s.E i).x (TB.gE s.E i).s (TB.gE s.E i).a W
   clear hc hc' hi hlt hg hg' hb
   generalize TB.gE s.E i = ye at *
   obtain ⟨b0, b1, b2, b3, b4, b5, b6, b7, b8, b9⟩ := ye
   dsimp only at *
   have gE := heap_alloc_new wr (.cells #[.int .i64 b0, .int .u64 b1, .int .i64 b2, .int .i64 b3, .int .u64 b4, .bool b5, .bool b6, .bool b7, .bool b8, .int .i64 b9] 97)
   have hbE := below_new wr (.cells #[.int .i64 b0, .int .u64 b1, .int .i64 b2, .int .i64 b3, .int .u64 b4, .bool b5, .bool b6, .bool b7, .bool b8, .int .i64 b9] 97)
   subst hq
   go_upto_region 7 with fail
   generalize wr.alloc (.cells #[.int .i64 b0, .int .u64 b1, .int .i64 b2, .int .i64 b3, .int .u64 b4, .bool b5, .bool b6, .bool b7, .bool b8, .int .i64 b9] 97) = w5 at *
   have HBx := Hid.mk (below_tr HB.out hbE)
   replace g0 := block_later hbE g0
   obtain ⟨f0, f1, f2, f3, f4⟩ := cl5 hbE f0 f1 f2 f3 f4
   obtain ⟨f5, f6, f7, f8, f9⟩ := cl5 hbE f5 f6 f7 f8 f9
   generalize wr.heap.size = KE at *
   obtain ⟨-, -, -, c3, -⟩ := cells9y g0
   clear d0 d1 d2 d3 d4 d5 d6 d7 d8 d9 g0 hbE
   obtain ⟨d0, d1, d2, d3, d4, d5, d6, d7, d8, d9⟩ := cells10z gE
   clear gE
   go_quiet (fail)
   go_wp2
   exact ⟨⟨i + 1, by have := HLT.out; omega, by go_num, below_tr HBx.out (TB.below_dN (Below.refl _ _) _)⟩, by have := HLT.out; simp [RowKit.intOf]; omega⟩
  ·have e : i = s.E.length := by omega
   subst e
   have HB2 := HBw
   have HBq := HB
   have HG2 := Hid.mk g0
   clear HB HBw g0 hb hlt hi HES HRE
   go_wp2
   go_loopw [9, 10, 77] (fun _ _ s77 wq => ∃ i : Nat, i ≤ s.K.length ∧ s77 = .int .i64 i ∧ Below wr.heap.size wr wq) (fun _ _ s77 _ => s.K.length - (RowKit.intOf s77).toNat)
   case atStart => exact ⟨0, by omega, rfl, Below.refl _ _⟩
   case round =>
    obtain ⟨i, hi, rfl, hb⟩ := hrel
    have HB := Hid.mk hb
    have HBw := Hid.mk (below_tr HB2.out hb)
    have HBr := Hid.mk (below_tr HBq.out hb)
    have g0 := block_later hb HG2.out
    by_cases hlt : i < s.K.length
    ·have hlt2 : (i : Int) < s.K.length := by omega
     have HLT := Hid.mk hlt
     have hib : (i : Int) < 64 := by omega
     obtain ⟨g, oo, rfl, hg, hc⟩ := HKS.out i hlt
     obtain ⟨g', oo', hq, hg', hc'⟩ := HRK.out i hlt
     (try dsimp only at hq)
     have d0 := cell_later HBr.out (hc 0 _ rfl)
     have d1 := cell_later HBr.out (hc 1 _ rfl)
     have d2 := cell_later HBr.out (hc 2 _ rfl)
     have d3 := cell_later HBr.out (hc 3 _ rfl)
     have f0 := cell_later HBw.out (hc' 0 _ rfl)
     have f1 := cell_later HBw.out (hc' 1 _ rfl)
     have f2 := cell_later HBw.out (hc' 2 _ rfl)
     have f3 := cell_later HBw.out (hc' 3 _ rfl)
     rw [Nat.add_zero] at d0 f0
     have hne := fun W => nK_same (TR.gE s.K i).aid (TR.gE s.K i).va (TR.gE s.K i).lv (TR.gE s.K i).tb W
     clear hc hc' hi hlt hg hg' hb
     generalize TR.gE s.K i = ye at *
     obtain ⟨b0, b1, b2, b3⟩ := ye
     (try dsimp only at *)
     have gE := heap_alloc_new wr (.cells #[.int .i64 b0, .int .u64 b1, .int .i64 b2, .int .u64 b3] 102)
     have hbE := below_new wr (.cells #[.int .i64 b0, .int .u64 b1, .int .i64 b2, .int .u64 b3] 102)
     subst hq
     go_upto_region 13 with fail
     generalize wr.alloc (.cells #[.int .i64 b0, .int .u64 b1, .int .i64 b2, .int .u64 b3] 102) = w5 at *
     have HBx := Hid.mk (below_tr HB.out hbE)
     replace g0 := block_later hbE g0
     obtain ⟨f0, f1, f2, f3⟩ := cl4 hbE f0 f1 f2 f3
     generalize wr.heap.size = KE at *
     obtain ⟨-, -, -, -, c4, -⟩ := cells9y g0
     clear d0 d1 d2 d3 g0 hbE
     obtain ⟨d0, d1, d2, d3⟩ := cells4y gE
     clear gE
     go_quiet (fail)
     go_wp2
     exact ⟨⟨i + 1, by have := HLT.out; omega, by go_num, below_tr HBx.out (TB.below_dN (Below.refl _ _) _)⟩, by have := HLT.out; simp [RowKit.intOf]; omega⟩
    ·have e : i = s.K.length := by omega
     subst e
     have HB3 := HBw
     have HG3 := Hid.mk g0
     obtain ⟨-, c1, -⟩ := cells9y g0
     clear HB HBw HBr HB2 HBq g0 hb hlt hi HKS HRK
     go_wp2
     go_loopw [12, 13, 14, 94] (fun _ _ _ s94 wq => ∃ i : Nat, i ≤ L.length ∧ s94 = .int .i64 i ∧ Below wr.heap.size wr wq) (fun _ _ _ s94 _ => L.length - (RowKit.intOf s94).toNat)
     case atStart => exact ⟨0, by omega, rfl, Below.refl _ _⟩
     case round =>
      obtain ⟨i, hi, rfl, hb⟩ := hrel
      have HB := Hid.mk hb
      have HBw := Hid.mk (below_tr HB3.out hb)
      have g0 := block_later hb HG3.out
      clear c1
      by_cases hlt : i < L.length
      ·have hlt2 : (i : Int) < L.length := by omega
       have HLT := Hid.mk hlt
       have hib : (i : Int) < 1000000 := by omega
       obtain ⟨g, rfl, hg, q1, q2⟩ := HPW.out i hlt
       have d0 := cell_later HBw.out q1
       have d1 := cell_later HBw.out q2
       have HRi := Hid.mk (HRD.out i hlt)
       clear q1 q2 hi hlt hg hb g0
       generalize L[i]!.1 = y1 at *
       generalize L[i]!.2 = y2 at *
       have gE := heap_alloc_new wr (.cells #[.int .u64 y1, .int .u64 y2] 104)
       have hbE := below_new wr (.cells #[.int .u64 y1, .int .u64 y2] 104)
       go_upto_region 19 with fail
       generalize wr.alloc (.cells #[.int .u64 y1, .int .u64 y2] 104) = w5 at *
       have HBx := Hid.mk (below_tr HB.out hbE)
       have HBy := Hid.mk (below_tr HBw.out hbE)
       clear d0 d1 hbE
       generalize wr.heap.size = KE at *
       obtain ⟨d0, d1⟩ := TR.row2c gE
       clear gE
       go_region_held3 (fun w' => (w'.cell? ⟨KE, 0, none⟩ = some (.int .u64 y1) ∧ w'.cell? ⟨KE, 1, none⟩ = some (.int .u64 y2)) ∧ Below w5.heap.size w5 w')
        ((go_split_ands; refine ⟨⟨?_, ?_⟩, ?_⟩ <;> first | (with_reducible assumption; done) | with_reducible exact cell_later hbm (by assumption) | with_reducible exact below_tr (by assumption) hbm | exact (Below.refl _ _).drew | exact cell_later (Below.refl _ _).drew (by assumption) | (go_keep; done)))
        (first
         | (go_at_call 14; refine (HMM.out _ (below_tr HBy.out (by go_split_ands; assumption))).mono ?_; rintro e w' ⟨rfl, hbm⟩)
         | (go_at_call 37; refine (HRi.out _ (below_tr HBy.out (by go_split_ands; assumption))).mono ?_; rintro e w' ⟨rfl, hbm⟩))
       all_goals
        go_split_ands
        go_wp2
        exact ⟨⟨i + 1, by have := HLT.out; omega, by go_num, below_tr HBx.out (by assumption)⟩, by have := HLT.out; simp [RowKit.intOf]; omega⟩
      ·have e : i = L.length := by omega
       subst e
       obtain ⟨-, -, -, -, -, c5, c6, c7, -⟩ := cells9y g0
       clear HB g0 hb hlt hi
       go_wp2_with fail
       refine (HRG.out _ HBw.out).mono ?_
       rintro e w9 ⟨rfl, hb9⟩
       obtain ⟨c5, c6, c7⟩ := cl3 hb9 c5 c6 c7
       have HBz := Hid.mk (below_tr HBw.out hb9)
       clear hb9 HRG
       have hon := HON.out
       cases hrg : s.rg with
       | none =>
        rw [hrg] at hon
        have e1 : on = false := hon
        subst e1
        have e2 : regW none = 0 := rfl
        simp only [e2, Option.isSome_none]
        clear hon
        go_wp2
        go_ret
        exact ⟨rfl, HBz.out⟩
       | some q =>
        obtain ⟨R', I'⟩ := q
        obtain ⟨h1, h2⟩ := HRI.out R' I' hrg
        obtain ⟨h3, h4⟩ := HRR.out R' I' hrg
        (try dsimp only at h1 h2)
        rw [hrg] at hon
        have e1 : on = true := hon
        subst e1 h1 h2
        have e2 : regW (some (R, I)) = R + I * 281474976710656 := rfl
        simp only [e2, Option.isSome_some]
        have hor : Hid (bits .or .u64 (R : Int) ((I : Int) * 281474976710656) = (R : Int) + (I : Int) * 281474976710656) := Hid.mk (by
         have := or_reg R I h3 h4
         rw [show IntKind.u64.wrap ((I : Int) * 281474976710656) = (I : Int) * 281474976710656 by rw [IntKind.wrap_u64]; omega] at this
         rw [this]; omega)
        have hcv : IntKind.u64.wrap (I : Int) = (I : Int) := by rw [IntKind.wrap_u64]; omega
        clear hon
        go_wp2
        go_ret
        exact ⟨by rw [hor.out]; simp, HBz.out⟩
end
end Go.Proofs.YtfohjkgheeiinaaGreatDoor.MM
