/- One more slot: what is wrong with it; Root. -/
import Derived.Test.YtcmndefjmhcbhaaDoorTreF
set_option linter.unusedVariables false
namespace Go.Proofs.YtcmndefjmhcbhaaDoor
open Go.RowKit
namespace TE

def ftB (k : Int) (a : Nat) (b r q s : Int) (m : Nat) : Bool := cB k a b r q s m && (k != 0)
theorem c7_of {w1 : World} {g t : Nat} {c0 c1 c2 c3 c4 c5 c6 : Value} (hh : w1.heap[g]? = some (.cells #[c0, c1, c2, c3, c4, c5, c6] t (0, 0))) :
    w1.cell? ⟨g, 0, none⟩ = some c0 ∧ w1.cell? ⟨g, 1, none⟩ = some c1 ∧ w1.cell? ⟨g, 2, none⟩ = some c2 ∧ w1.cell? ⟨g, 3, none⟩ = some c3 ∧ w1.cell? ⟨g, 4, none⟩ = some c4 ∧ w1.cell? ⟨g, 5, none⟩ = some c5 ∧ w1.cell? ⟨g, 6, none⟩ = some c6 := by
  refine ⟨?_, ?_, ?_, ?_, ?_, ?_, ?_⟩ <;> (rw [cell_of_row _ _ _ _ _ _ hh]; rfl)
set_option maxRecDepth 100000 in
set_option maxHeartbeats 2000000 in
theorem fits_any (k : Int) (a : Nat) (b r q s : Int) (m : Nat) (ha : a < 18446744073709551616) (hm : m < 18446744073709551616) (W : World) : Calls Tryd.prog 45 #[.agg #[.int .i64 k, .int .u64 (a : Nat), .int .i64 b, .int .i64 r, .int .i64 q, .int .i64 s, .int .u64 (m : Nat)]] W fun e w' => e = .returned (.bool (ftB k a b r q s m)) ∧ Below W.heap.size W w' := by
  have cR := fun w1 => cright_any k a b r q s m ha hm w1
  have g1 := heap_alloc_new W (.cells #[.int .i64 k, .int .u64 (a : Nat), .int .i64 b, .int .i64 r, .int .i64 q, .int .i64 s, .int .u64 (m : Nat)] 33)
  have hB := below_new W (.cells #[.int .i64 k, .int .u64 (a : Nat), .int .i64 b, .int .i64 r, .int .i64 q, .int .i64 s, .int .u64 (m : Nat)] 33)
  generalize eW : W.alloc (.cells #[.int .i64 k, .int .u64 (a : Nat), .int .i64 b, .int .i64 r, .int .i64 q, .int .i64 s, .int .u64 (m : Nat)] 33) = W0 at *
  cases hc : cB k a b r q s m
  · have HF : Hid (ftB k a b r q s m = false) := by show ftB k a b r q s m = false; unfold ftB; rw [hc]; rfl
    rw [hc] at cR
    clear hc
    obtain ⟨q0, q1, q2, q3, q4, q5, q6⟩ := c7_of g1
    go_enter Tryd.func45, Tryd.ntmps45
    go_wp2_with fail
    (try rw [eW])
    refine (cR _).mono ?_
    clear q0 q1 q2 q3 q4 q5 q6
    rintro e w1 ⟨rfl, hb⟩
    replace hB := below_tr hB hb
    go_wp2
    go_ret
    rw [HF.out]
    exact ⟨rfl, hB⟩
  · by_cases hk : k = 0
    · have HF : Hid (ftB k a b r q s m = false) := by show ftB k a b r q s m = false; unfold ftB; rw [hc, hk]; rfl
      have dk : ((k : Int) != 0) = false := by rw [bne_eq_false_iff_eq]; exact hk
      rw [hc] at cR
      clear hc hk
      obtain ⟨q0, q1, q2, q3, q4, q5, q6⟩ := c7_of g1
      go_enter Tryd.func45, Tryd.ntmps45
      go_wp2_with fail
      (try rw [eW])
      refine (cR _).mono ?_
      clear q0 q1 q2 q3 q4 q5 q6
      rintro e w1 ⟨rfl, hb⟩
      replace hB := below_tr hB hb
      obtain ⟨q0, q1, q2, q3, q4, q5, q6⟩ := c7_of (block_later hb g1)
      go_wp2
      go_ret
      rw [HF.out]
      exact ⟨rfl, hB⟩
    · have HF : Hid (ftB k a b r q s m = true) := by show ftB k a b r q s m = true; unfold ftB; rw [hc]; simp [hk]
      have dk : ((k : Int) != 0) = true := by rw [bne_iff_ne]; exact hk
      rw [hc] at cR
      clear hc hk
      obtain ⟨q0, q1, q2, q3, q4, q5, q6⟩ := c7_of g1
      go_enter Tryd.func45, Tryd.ntmps45
      go_wp2_with fail
      (try rw [eW])
      refine (cR _).mono ?_
      clear q0 q1 q2 q3 q4 q5 q6
      rintro e w1 ⟨rfl, hb⟩
      replace hB := below_tr hB hb
      obtain ⟨q0, q1, q2, q3, q4, q5, q6⟩ := c7_of (block_later hb g1)
      go_wp2
      go_ret
      rw [HF.out]
      exact ⟨rfl, hB⟩

/-- The error of one more slot. -/
def maE (S : Nat) (σ : Nat → Option Sl) (y ct : Nat) (B : Bool) : Int := if frE S σ y = 0 then (if B = true then (if 65536 ≤ ct then 15 else 0) else 10) else frE S σ y
set_option maxRecDepth 100000 in
set_option maxHeartbeats 2000000 in
theorem mayAdd_c {w0 W : World} {O : Nat → Prop} {x ad S n : Nat} {g : Nat → Nat} {σ : Nat → Option Sl} {fs ct : Nat} (h : TrS w0 W O x ad S n g σ fs ct) {y : Nat} (hlt : y < 18446744073709551616) (hz : Zr g y) (k : Int) (a : Nat) (b r q s : Int) (m : Nat) (ha : a < 18446744073709551616) (hm : m < 18446744073709551616) :
    Calls Tryd.prog 27 #[.pointer (some ⟨x, 0, none⟩), .int .u64 (y : Nat), .agg #[.int .i64 k, .int .u64 (a : Nat), .int .i64 b, .int .i64 r, .int .i64 q, .int .i64 s, .int .u64 (m : Nat)]] W fun e w' => e = .returned (.int .i64 (maE S σ y ct (ftB k a b r q s m))) ∧ Below W.heap.size W w' := by
  have k2 := h.c2
  have hxl := h.olt x h.ox
  have cF := fun (w1 : World) (hb : Below W.heap.size W w1) => free_c (h.below hb) hlt hz
  have cT := fun w1 => fits_any k a b r q s m ha hm w1
  have g1 := heap_alloc_new W (.cells #[.int .i64 k, .int .u64 (a : Nat), .int .i64 b, .int .i64 r, .int .i64 q, .int .i64 s, .int .u64 (m : Nat)] 33)
  have hB := below_new W (.cells #[.int .i64 k, .int .u64 (a : Nat), .int .i64 b, .int .i64 r, .int .i64 q, .int .i64 s, .int .u64 (m : Nat)] 33)
  generalize eW : W.alloc (.cells #[.int .i64 k, .int .u64 (a : Nat), .int .i64 b, .int .i64 r, .int .i64 q, .int .i64 s, .int .u64 (m : Nat)] 33) = W0 at *
  generalize ftB k a b r q s m = B at *
  replace k2 := cell_later hB k2
  clear h hz hlt hxl
  unfold maE
  generalize frE S σ y = E at *
  by_cases hE : E = 0
  · subst hE
    rw [if_pos rfl]
    cases B
    · rw [if_neg (by decide)]
      go_enter Tryd.func27, Tryd.ntmps27
      go_upto_region 1 with fail
      (try rw [eW])
      go_wp2_with fail
      refine (cF _ hB).mono ?_
      rintro e w1 ⟨rfl, hb⟩
      replace hB := below_tr hB hb
      obtain ⟨q0, q1, q2, q3, q4, q5, q6⟩ := c7_of (block_later hb g1)
      go_wp2_with fail
      refine (cT _).mono ?_
      clear q0 q1 q2 q3 q4 q5 q6
      rintro e w2 ⟨rfl, hb2⟩
      replace hB := below_tr hB hb2
      go_wp2
      go_ret
      exact ⟨rfl, hB⟩
    · rw [if_pos rfl]
      by_cases hc : 65536 ≤ ct
      · rw [if_pos hc]
        have hc1 : (65536 : Int) ≤ (ct : Int) := by omega
        clear hc ha hm
        generalize ((ct : Nat) : Int) = cI at *
        go_enter Tryd.func27, Tryd.ntmps27
        go_upto_region 1 with fail
        (try rw [eW])
        go_wp2_with fail
        refine (cF _ hB).mono ?_
        rintro e w1 ⟨rfl, hb⟩
        replace hB := below_tr hB hb
        replace k2 := cell_later hb k2
        obtain ⟨q0, q1, q2, q3, q4, q5, q6⟩ := c7_of (block_later hb g1)
        go_wp2_with fail
        refine (cT _).mono ?_
        clear q0 q1 q2 q3 q4 q5 q6
        rintro e w2 ⟨rfl, hb2⟩
        replace hB := below_tr hB hb2
        replace k2 := cell_later hb2 k2
        go_wp2
        go_ret
        exact ⟨rfl, hB⟩
      · rw [if_neg hc]
        have hc1 : ¬ (65536 : Int) ≤ (ct : Int) := by omega
        clear hc ha hm
        generalize ((ct : Nat) : Int) = cI at *
        go_enter Tryd.func27, Tryd.ntmps27
        go_upto_region 1 with fail
        (try rw [eW])
        go_wp2_with fail
        refine (cF _ hB).mono ?_
        rintro e w1 ⟨rfl, hb⟩
        replace hB := below_tr hB hb
        replace k2 := cell_later hb k2
        obtain ⟨q0, q1, q2, q3, q4, q5, q6⟩ := c7_of (block_later hb g1)
        go_wp2_with fail
        refine (cT _).mono ?_
        clear q0 q1 q2 q3 q4 q5 q6
        rintro e w2 ⟨rfl, hb2⟩
        replace hB := below_tr hB hb2
        replace k2 := cell_later hb2 k2
        go_wp2
        go_ret
        exact ⟨rfl, hB⟩
  · rw [if_neg hE]
    have dE : ((E : Int) != 0) = true := by rw [bne_iff_ne]; exact hE
    clear hE
    go_enter Tryd.func27, Tryd.ntmps27
    go_upto_region 1 with fail
    (try rw [eW])
    go_wp2_with fail
    refine (cF _ hB).mono ?_
    rintro e w1 ⟨rfl, hb⟩
    replace hB := below_tr hB hb
    go_wp2
    go_ret
    exact ⟨rfl, hB⟩

/-- A list of slots that may lie in a memory of S bytes. -/
structure Wf (S : Nat) (L : List Nd) : Prop where
  nd : (ps L).Nodup
  z : 0 ∉ ps L
  al : ∀ n ∈ L, sE S n.p = 0 ∧ Fit n.c ∧ n.d ≤ 4096
def TrL (w0 W : World) (O : Nat → Prop) (x ad S n : Nat) (g : Nat → Nat) (L : List Nd) : Prop := TrS w0 W O x ad S n g (sg 0 L 0) (hd L 0) L.length ∧ Wf S L
def NxL (w0 W : World) (O : Nat → Prop) (x ad S n : Nat) (g : Nat → Nat) (L : List Nd) (W' : World) : Prop := NxS w0 W O x ad S n g (sg 0 L 0) (hd L 0) L.length W' ∧ Wf S L
theorem ma_ok {S : Nat} {L : List Nd} (hW : Wf S L) {y ct : Nat} {B : Bool} (h : maE S (sg 0 L 0) y ct B = 0) : sE S y = 0 ∧ y ≠ 0 ∧ y ∉ ps L ∧ B = true ∧ ct < 65536 := by
  unfold maE at h
  by_cases hE : frE S (sg 0 L 0) y = 0
  · rw [if_pos hE] at h
    unfold frE at hE
    by_cases y0 : y = 0
    · rw [if_pos y0] at hE; cases hE
    · rw [if_neg y0] at hE
      by_cases hs : sE S y = 0
      · rw [if_pos hs] at hE
        have hy : y ∉ ps L := fun c => by
          obtain ⟨s, q⟩ := sg_some c 0 0
          rw [q] at hE; cases hE
        cases B
        · rw [if_neg (by decide)] at h; cases h
        · rw [if_pos rfl] at h
          by_cases hc : 65536 ≤ ct
          · rw [if_pos hc] at h; cases h
          · exact ⟨hs, y0, hy, rfl, by omega⟩
      · rw [if_neg hs] at hE; exact absurd hE hs
  · rw [if_neg hE] at h; exact absurd h hE
theorem mem_ps {L : List Nd} {y : Nat} (h : y ∈ ps L) : ∃ n ∈ L, n.p = y := by
  simp only [ps, List.mem_map] at h; exact h
theorem hd_link {S : Nat} {L : List Nd} (hS : 65536 ≤ S ∧ S ≤ 4294967296 ∧ S % 4096 = 0) (h : Wf S L) : hd L 0 < 4294967296 ∧ hd L 0 % 32 = 0 := by
  cases L with
  | nil => exact ⟨by show (0 : Nat) < _; decide, rfl⟩
  | cons n L => have := sE_ok (h.al n (by simp)).1; show n.p < _ ∧ n.p % 32 = 0; omega
theorem hd_ex {S : Nat} {L : List Nd} (h : Wf S L) (y : Nat) (s : Sl) : hd L 0 = 0 ∨ ∃ t, up (sg 0 L 0) y (some s) (hd L 0) = some t := by
  cases L with
  | nil => exact Or.inl rfl
  | cons n L =>
    refine Or.inr ?_
    show ∃ t, up (sg 0 (n :: L) 0) y (some s) n.p = some t
    rw [up_z]
    by_cases c : n.p = y
    · rw [if_pos c]; exact ⟨_, rfl⟩
    · rw [if_neg c, sg_cons, if_pos rfl]; exact ⟨_, rfl⟩
theorem Wf.ins {S : Nat} {A B : List Nd} {m : Nd} (h : Wf S (A ++ B)) (h1 : sE S m.p = 0) (h2 : m.p ≠ 0) (h3 : m.p ∉ ps (A ++ B)) (hf : Fit m.c) (hd : m.d ≤ 4096) : Wf S (A ++ m :: B) := by
  refine ⟨?_, ?_, fun n hn => ?_⟩
  · have := h.nd
    rw [ps_app] at this h3 ⊢
    show (ps A ++ m.p :: ps B).Nodup
    rw [List.mem_append] at h3
    rw [List.nodup_append] at this ⊢
    refine ⟨this.1, List.nodup_cons.2 ⟨fun c => h3 (Or.inr c), this.2.1⟩, fun a ha b hb => ?_⟩
    rcases List.mem_cons.1 hb with c | c
    · intro e; exact h3 (Or.inl (by rw [← c, ← e]; exact ha))
    · exact this.2.2 a ha b c
  · have := h.z
    rw [ps_app, List.mem_append] at this ⊢
    rintro (c | c)
    · exact this (Or.inl c)
    · rcases List.mem_cons.1 c with c | c
      · exact h2 c.symm
      · exact this (Or.inr c)
  · rcases List.mem_append.1 hn with c | c
    · exact h.al n (List.mem_append.2 (Or.inl c))
    · rcases List.mem_cons.1 c with c | c
      · rw [c]; exact ⟨h1, hf, hd⟩
      · exact h.al n (List.mem_append.2 (Or.inr c))
theorem NxL.open_ {w0 W W' : World} {O : Nat → Prop} {x ad S n : Nat} {g : Nat → Nat} {L : List Nd} (h : NxL w0 W O x ad S n g L W') : ∃ O', TrL w0 W' O' x ad S n g L ∧ Turn O W W' ∧ ∀ i, i < W.heap.size → O' i → O i := by
  obtain ⟨⟨O', h1, h2, h3⟩, h4⟩ := h
  exact ⟨O', ⟨h1, h4⟩, h2, h3⟩

set_option maxRecDepth 100000 in
set_option maxHeartbeats 2000000 in
theorem root_no {w0 W : World} {O : Nat → Prop} {x ad S n : Nat} {g : Nat → Nat} {σ : Nat → Option Sl} {fs ct : Nat} (h : TrS w0 W O x ad S n g σ fs ct) {y : Nat} (hlt : y < 18446744073709551616) (hz : Zr g y) (k : Int) (a : Nat) (b r q s : Int) (m : Nat) (ha : a < 18446744073709551616) (hm : m < 18446744073709551616) (hE : ¬ maE S σ y ct (ftB k a b r q s m) = 0) :
    Calls Tryd.prog 21 #[.pointer (some ⟨x, 0, none⟩), .int .u64 (y : Nat), .agg #[.int .i64 k, .int .u64 (a : Nat), .int .i64 b, .int .i64 r, .int .i64 q, .int .i64 s, .int .u64 (m : Nat)]] W fun e w' => e = .returned (.int .i64 (maE S σ y ct (ftB k a b r q s m))) ∧ Below W.heap.size W w' := by
  have cM := fun (w1 : World) (hb : Below W.heap.size W w1) => mayAdd_c (h.below hb) hlt hz k a b r q s m ha hm
  have g1 := heap_alloc_new W (.cells #[.int .i64 k, .int .u64 (a : Nat), .int .i64 b, .int .i64 r, .int .i64 q, .int .i64 s, .int .u64 (m : Nat)] 33)
  have hB := below_new W (.cells #[.int .i64 k, .int .u64 (a : Nat), .int .i64 b, .int .i64 r, .int .i64 q, .int .i64 s, .int .u64 (m : Nat)] 33)
  generalize eW : W.alloc (.cells #[.int .i64 k, .int .u64 (a : Nat), .int .i64 b, .int .i64 r, .int .i64 q, .int .i64 s, .int .u64 (m : Nat)] 33) = W0 at *
  generalize maE S σ y ct (ftB k a b r q s m) = E at *
  have dE : ((E : Int) != 0) = true := by rw [bne_iff_ne]; exact hE
  clear h hz hlt hE
  obtain ⟨q0, q1, q2, q3, q4, q5, q6⟩ := c7_of g1
  go_enter Tryd.func21, Tryd.ntmps21
  go_upto_region 1 with fail
  (try rw [eW])
  go_wp2_with fail
  refine (cM _ hB).mono ?_
  clear q0 q1 q2 q3 q4 q5 q6
  rintro e w1 ⟨rfl, hb⟩
  replace hB := below_tr hB hb
  go_wp2
  go_ret
  exact ⟨rfl, hB⟩
set_option maxRecDepth 100000 in
set_option maxHeartbeats 2000000 in
theorem root_mk {σ' : Nat → Option Sl} {fs' ct' : Nat} {w0 W : World} {O : Nat → Prop} {x ad S n : Nat} {g : Nat → Nat} {σ : Nat → Option Sl} {fs ct : Nat} (h : TrS w0 W O x ad S n g σ fs ct) (hn : n + 20 < 100000000) {y : Nat} {c : Cp} (hf : Fit c)
    (cM : ∀ w1, Below W.heap.size W w1 → Calls Tryd.prog 27 #[.pointer (some ⟨x, 0, none⟩), .int .u64 (y : Nat), .agg #[.int .i64 (c.k : Nat), .int .u64 (c.a : Nat), .int .i64 (c.b : Nat), .int .i64 (c.r : Nat), .int .i64 (c.g : Nat), .int .i64 (c.s : Nat), .int .u64 (c.m : Nat)]] w1 fun e w' => e = .returned (.int .i64 0) ∧ Below w1.heap.size w1 w')
    (cA : ∀ w1, TrS w0 w1 O x ad S n g σ fs ct → Calls Tryd.prog 28 #[.pointer (some ⟨x, 0, none⟩), .int .u64 (y : Nat), .agg #[.int .i64 (c.k : Nat), .int .u64 (c.a : Nat), .int .i64 (c.b : Nat), .int .i64 (c.r : Nat), .int .i64 (c.g : Nat), .int .i64 (c.s : Nat), .int .u64 (c.m : Nat), .int .u64 (fs : Nat), .int .u64 0, .int .i64 0]] w1 fun e w' => e = .returned (.tuple #[]) ∧ NxS w0 w1 O x ad S (n + 20) g σ' fs' ct' w') :
    Calls Tryd.prog 21 #[.pointer (some ⟨x, 0, none⟩), .int .u64 (y : Nat), .agg #[.int .i64 (c.k : Nat), .int .u64 (c.a : Nat), .int .i64 (c.b : Nat), .int .i64 (c.r : Nat), .int .i64 (c.g : Nat), .int .i64 (c.s : Nat), .int .u64 (c.m : Nat)]] W fun e w' => e = .returned (.int .i64 0) ∧ NxS w0 W O x ad S (n + 20) g σ' fs' ct' w' := by
  have H0 := Hid.mk h
  have k1 := h.c1
  have hlo := h.olt
  have g1 := heap_alloc_new W (.cells #[.int .i64 (c.k : Nat), .int .u64 (c.a : Nat), .int .i64 (c.b : Nat), .int .i64 (c.r : Nat), .int .i64 (c.g : Nat), .int .i64 (c.s : Nat), .int .u64 (c.m : Nat)] 33)
  have hB := below_new W (.cells #[.int .i64 (c.k : Nat), .int .u64 (c.a : Nat), .int .i64 (c.b : Nat), .int .i64 (c.r : Nat), .int .i64 (c.g : Nat), .int .i64 (c.s : Nat), .int .u64 (c.m : Nat)] 33)
  have hb5 : ∀ i, O i → i ≠ W.heap.size := fun i c e => by have := hlo i c; omega
  have hS1 : W.heap.size < (W.alloc (.cells #[.int .i64 (c.k : Nat), .int .u64 (c.a : Nat), .int .i64 (c.b : Nat), .int .i64 (c.r : Nat), .int .i64 (c.g : Nat), .int .i64 (c.s : Nat), .int .u64 (c.m : Nat)] 33)).heap.size := by simp
  generalize eW : W.alloc (.cells #[.int .i64 (c.k : Nat), .int .u64 (c.a : Nat), .int .i64 (c.b : Nat), .int .i64 (c.r : Nat), .int .i64 (c.g : Nat), .int .i64 (c.s : Nat), .int .u64 (c.m : Nat)] 33) = W0 at *
  clear h
  replace k1 := cell_later hB k1
  obtain ⟨q0, q1, q2, q3, q4, q5, q6⟩ := c7_of g1
  go_enter Tryd.func21, Tryd.ntmps21
  go_upto_region 1 with fail
  (try rw [eW])
  go_wp2_with fail
  refine (cM _ hB).mono ?_
  clear q0 q1 q2 q3 q4 q5 q6
  rintro e w1 ⟨rfl, hb⟩
  replace hB := below_tr hB hb
  replace k1 := cell_later hb k1
  replace g1 := block_later hb g1
  go_upto_region 4 with fail
  refine wp_region_noPanic ?_
  refine wp_region_held_drew (S := fun w' => w'.heap[W.heap.size]? = some (.cells #[.int .i64 (c.k : Nat), .int .u64 (c.a : Nat), .int .i64 (c.b : Nat), .int .i64 (c.r : Nat), .int .i64 (c.g : Nat), .int .i64 (c.s : Nat), .int .u64 (c.m : Nat)] 33 (0, 0))) (by kernel_rfl) (block_later (Below.refl _ _).drew g1) (fun hHeld => ?_)
  have HD : Hid (Below W.heap.size W w1.drew) := below_tr hB (Below.refl _ w1).drew
  have k1d := cell_later (Below.refl _ w1).drew k1
  clear k1
  generalize w1.drew = wd at *
  refine take_at (i := 0) (v := ?_) 15 rfl rfl (by kernel_rfl) (by kernel_rfl) (by kernel_rfl) (fun _ _ _ h => h) (Or.inl ⟨by rfl, ?_⟩) (by assumption) ?_
  rotate_left
  · (intro w' hSw; (try dsimp only at hSw); go_simp; all_goals with_reducible rfl)
  try simp only [Act.put, List.setIfInBounds_toArray, List.set_cons_zero, List.set_cons_succ]
  refine take_at (i := 1) (v := ?_) 16 rfl rfl (by kernel_rfl) (by kernel_rfl) (by kernel_rfl) (fun _ _ _ h => h) (Or.inl ⟨by rfl, ?_⟩) (by assumption) ?_
  rotate_left
  · (intro w' hSw; (try dsimp only at hSw); go_simp; all_goals with_reducible rfl)
  try simp only [Act.put, List.setIfInBounds_toArray, List.set_cons_zero, List.set_cons_succ]
  refine take_at (i := 2) (v := .agg #[.int .i64 (c.k : Nat), .int .u64 (c.a : Nat), .int .i64 (c.b : Nat), .int .i64 (c.r : Nat), .int .i64 (c.g : Nat), .int .i64 (c.s : Nat), .int .u64 (c.m : Nat)]) 17 rfl rfl (by kernel_rfl) (by kernel_rfl) (by kernel_rfl) (fun _ _ _ h => h) (Or.inl ⟨by rfl, fun w' hSw => exec_row rfl rfl (hSw) Tryd.underlying33 rfl (info7.trans (congrArg some (show (#[.int .i64 (c.k : Nat), .int .u64 (c.a : Nat), .int .i64 (c.b : Nat), .int .i64 (c.r : Nat), .int .i64 (c.g : Nat), .int .i64 (c.s : Nat), .int .u64 (c.m : Nat)] : Array Value).size = 7 from rfl).symm))⟩) (by assumption) ?_
  try simp only [Act.put, List.setIfInBounds_toArray, List.set_cons_zero, List.set_cons_succ]
  refine take_at (i := 3) (v := ?_) 18 rfl rfl (by kernel_rfl) (by kernel_rfl) (by kernel_rfl) (fun _ _ _ h => h) (Or.inl ⟨by rfl, ?_⟩) (by assumption) ?_
  rotate_left
  · (intro w' hSw; (try dsimp only at hSw); go_simp; all_goals with_reducible rfl)
  try simp only [Act.put, List.setIfInBounds_toArray, List.set_cons_zero, List.set_cons_succ]
  refine take_at (i := 4) (v := ?_) 19 rfl rfl (by kernel_rfl) (by kernel_rfl) (by kernel_rfl) (fun _ _ _ h => h) (Or.inl ⟨by rfl, ?_⟩) (by assumption) ?_
  rotate_left
  · (intro w' hSw; (try dsimp only at hSw); go_simp; all_goals with_reducible rfl)
  try simp only [Act.put, List.setIfInBounds_toArray, List.set_cons_zero, List.set_cons_succ]
  refine take_at (i := 5) (v := ?_) 20 rfl rfl (by kernel_rfl) (by kernel_rfl) (by kernel_rfl) (fun _ _ _ h => h) (Or.inl ⟨by rfl, ?_⟩) (by assumption) ?_
  rotate_left
  · (intro w' hSw; (try dsimp only at hSw); go_simp; all_goals with_reducible rfl)
  try simp only [Act.put, List.setIfInBounds_toArray, List.set_cons_zero, List.set_cons_succ]
  refine wpAnyH_ready (rs := [6]) (by kernel_rfl) (by simp) ?_
  refine AllReadyH.cons rfl (fun K hK => ?_) AllReadyH.nil
  go_simp
  refine hK.out _ _ hHeld (fun hHeld2 => ?_)
  clear hK
  try simp only [Act.put, List.setIfInBounds_toArray, List.set_cons_zero, List.set_cons_succ]
  refine take_at (i := 7) (v := ?_) 22 rfl rfl (by kernel_rfl) (by kernel_rfl) (by kernel_rfl) (fun _ _ _ h => h) (Or.inl ⟨by rfl, ?_⟩) (by assumption) ?_
  rotate_left
  · (intro w' hSw; (try dsimp only at hSw); go_simp; all_goals with_reducible rfl)
  try simp only [Act.put, List.setIfInBounds_toArray, List.set_cons_zero, List.set_cons_succ]
  refine wpAnyH_ready (rs := [8]) (by kernel_rfl) (by simp) ?_
  refine AllReadyH.cons rfl (fun K hK => ?_) AllReadyH.nil
  go_simp
  refine (cA _ (H0.out.below HD.out)).mono ?_
  clear k1d
  rintro e w3 ⟨rfl, O1, hn1, hn2, hn3⟩
  go_wp2_with fail
  have g51 := turn_row hn2 hHeld (fun c => hb5 _ c rfl)
  have HN : Hid (NxS w0 W O x ad S (n + 20) g σ' fs' ct' w3) := NxS.base HD.out ⟨O1, hn1, hn2, hn3⟩
  clear hn1 hn2 hn3
  refine hK.out _ _ g51 (fun hHeld3 => ?_)
  clear hK
  try simp only [Act.put, List.setIfInBounds_toArray, List.set_cons_zero, List.set_cons_succ]
  refine wpAnyH_done (by kernel_rfl) ?_ _
  refine NoPanic.normal ?_
  go_wp2
  go_ret
  exact ⟨rfl, HN.out⟩
theorem root_ok {w0 W : World} {O : Nat → Prop} {x ad S n : Nat} {g : Nat → Nat} {L : List Nd} (h : TrL w0 W O x ad S n g L) (hn : n + 20 < 100000000) {y : Nat} (hlt : y < 18446744073709551616) (hz : Zr g y) {c : Cp} (hf : Fit c) (hE : maE S (sg 0 L 0) y L.length true = 0) :
    Calls Tryd.prog 21 #[.pointer (some ⟨x, 0, none⟩), .int .u64 (y : Nat), .agg #[.int .i64 (c.k : Nat), .int .u64 (c.a : Nat), .int .i64 (c.b : Nat), .int .i64 (c.r : Nat), .int .i64 (c.g : Nat), .int .i64 (c.s : Nat), .int .u64 (c.m : Nat)]] W fun e w' => e = .returned (.int .i64 0) ∧ NxL w0 W O x ad S (n + 20) g (⟨y, c, 0⟩ :: L) w' := by
  obtain ⟨h1, h2⟩ := h
  have hB : ftB c.k c.a c.b c.r c.g c.s c.m = true := by unfold ftB; rw [hf.cb]; simp [hf.k0]
  obtain ⟨e1, e2, e3, e4⟩ := ma_ok h2 hE
  have hI := lay_ins (A := []) (B := L) (m := ⟨y, c, 0⟩) (fun _ q => by cases q) e2 h2.nd e3 h2.z
  have hgs : GoodS ⟨c, hd L 0, 0, 0⟩ := ⟨hf, hd_link h1.sm h2, ⟨by show (0 : Nat) < _; decide, rfl⟩, Nat.zero_le _⟩
  have hW : Wf S (⟨y, c, 0⟩ :: L) := h2.ins (A := []) e1 e2 e3 hf (Nat.zero_le _)
  refine (root_mk h1 hn hf (fun w1 hb => ?_) (fun w1 hw => ?_)).mono fun e w' hh => ⟨hh.1, hh.2, hW⟩
  · have := mayAdd_c (h1.below hb) hlt hz c.k c.a c.b c.r c.g c.s c.m (by have := hf.rt.qa; omega) hf.rt.qm
    rw [hB, hE] at this
    exact this
  · have := add_c hw hn (by omega) e1 e2 hgs (Or.inl rfl) ?_
    · have i1 : lyS y ⟨c, hd L 0, 0, 0⟩ (sg 0 L 0) = sg 0 (⟨y, c, 0⟩ :: L) 0 := hI.1
      have i2 : lyF y ⟨c, hd L 0, 0, 0⟩ (hd L 0) = hd (⟨y, c, 0⟩ :: L) 0 := hI.2
      rw [i1, i2] at this; exact this
    · exact hd_ex h2 y _
end TE
end Go.Proofs.YtcmndefjmhcbhaaDoor
