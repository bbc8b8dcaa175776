/- Same. -/
import Derived.Test.YtieldgocgjoojaaDoorPhysIter
namespace Go.Proofs.YtieldgocgjoojaaDoor
open Go.RowKit Go.Maps

theorem nodup_back : ∀ {l1 l2 : List Nat}, l1.Nodup → (∀ x, x ∈ l1 → x ∈ l2) → l2.length ≤ l1.length → ∀ x, x ∈ l2 → x ∈ l1
  | [], l2, _, _, hl, x, hx => by
    have : l2 = [] := List.eq_nil_of_length_eq_zero (by simpa using hl)
    rw [this] at hx; cases hx
  | a :: l1, l2, hd, hs, hl, x, hx => by
    obtain ⟨h1, h2⟩ := List.nodup_cons.1 hd
    by_cases e : x = a
    · rw [e]; simp
    · have ha : a ∈ l2 := hs a (by simp)
      have hlen : (l2.erase a).length + 1 = l2.length := by
        have := List.length_erase_of_mem ha
        have h0 : 0 < l2.length := List.length_pos_of_mem ha
        omega
      refine List.mem_cons_of_mem _ (nodup_back h2 (l2 := l2.erase a) (fun y hy => ?_) (by simp at hl; omega) x ?_)
      · exact (List.mem_erase_of_ne (fun c => by rw [c] at hy; exact h1 hy)).2 (hs y (List.mem_cons_of_mem _ hy))
      · exact (List.mem_erase_of_ne e).2 hx

/-- Of two memories that are alike wherever the first has pages, and have as many pages, all words are. -/
theorem same_all {w w2 : World} {X Y : Nat → Prop} {a b S n k : Nat} {f g : Nat → Nat} {mb mb2 : Nat} {pg pg2 : Nat → Option Nat} (h : Mem w X a S n f mb pg) (h2 : Mem w2 Y b S k g mb2 pg2) {ks ks2 : List Nat}
    (hd : ks.Nodup) (hk : ∀ x, x ∈ ks ↔ x < 18446744073709551616 ∧ (pg x).isSome = true) (hk2 : ∀ x, x ∈ ks2 ↔ x < 18446744073709551616 ∧ (pg2 x).isSome = true) (hl : ks.length = ks2.length)
    (heq : ∀ x b, pg x = some b → ∀ i, i < 512 → f (x + 8 * i) = g (x + 8 * i)) : f = g := by
  have hsub : ∀ x, x ∈ ks → x ∈ ks2 := fun x hx => by
    obtain ⟨q1, q2⟩ := (hk x).1 hx
    obtain ⟨c, hc⟩ := Option.isSome_iff_exists.1 q2
    refine (hk2 x).2 ⟨q1, ?_⟩
    obtain ⟨_, p2, _, _, i, hi, h0⟩ := h.page x c hc
    cases e : pg2 x with
    | some _ => rfl
    | none => exact absurd ((heq x c hc i hi).trans (h2.zero x p2 e i hi)) h0
  funext y
  by_cases h8 : y % 8 = 0
  · by_cases hS : S ≤ y
    · rw [h.out y (Or.inr hS), h2.out y (Or.inr hS)]
    · have hs0 := h.s0
      have hdl : dn y < 18446744073709551616 := by have := dn_le y; omega
      cases e : pg (dn y) with
      | some c =>
        have := heq (dn y) c e (plc y) (plc_lt y)
        rwa [dn_plc h8] at this
      | none =>
        have h0 := h.zero (dn y) (dn_mod y) e (plc y) (plc_lt y)
        rw [dn_plc h8] at h0
        cases e2 : pg2 (dn y) with
        | none =>
          have h1 := h2.zero (dn y) (dn_mod y) e2 (plc y) (plc_lt y)
          rw [dn_plc h8] at h1
          rw [h0, h1]
        | some c =>
          have hin := nodup_back hd hsub (by omega) (dn y) ((hk2 _).2 ⟨hdl, by rw [e2]; rfl⟩)
          have := ((hk _).1 hin).2
          rw [e] at this
          cases this
  · rw [h.out y (Or.inl h8), h2.out y (Or.inl h8)]

theorem same_len {w w2 : World} {X Y : Nat → Prop} {a b S n k : Nat} {f : Nat → Nat} {mb mb2 : Nat} {pg pg2 : Nat → Option Nat} (h : Mem w X a S n f mb pg) (h2 : Mem w2 Y b S k f mb2 pg2) {ks ks2 : List Nat}
    (hd : ks.Nodup) (hd2 : ks2.Nodup) (hk : ∀ x, x ∈ ks ↔ x < 18446744073709551616 ∧ (pg x).isSome = true) (hk2 : ∀ x, x ∈ ks2 ↔ x < 18446744073709551616 ∧ (pg2 x).isSome = true) : ks.length = ks2.length := by
  have key : ∀ {w w2 : World} {X Y : Nat → Prop} {a b n k : Nat} {mb mb2 : Nat} {pg pg2 : Nat → Option Nat} (h : Mem w X a S n f mb pg) (h2 : Mem w2 Y b S k f mb2 pg2) (x : Nat), (pg x).isSome = true → (pg2 x).isSome = true := by
    intro w w2 X Y a b n k mb mb2 pg pg2 h h2 x hx
    obtain ⟨c, hc⟩ := Option.isSome_iff_exists.1 hx
    obtain ⟨_, p2, _, _, i, hi, h0⟩ := h.page x c hc
    cases e : pg2 x with
    | some _ => rfl
    | none => exact absurd (h2.zero x p2 e i hi) h0
  have sub : ∀ x, x ∈ ks → x ∈ ks2 := fun x hx => (hk2 x).2 ⟨((hk x).1 hx).1, key h h2 x ((hk x).1 hx).2⟩
  have sub2 : ∀ x, x ∈ ks2 → x ∈ ks := fun x hx => (hk x).2 ⟨((hk2 x).1 hx).1, key h2 h x ((hk2 x).1 hx).2⟩
  have p : ks.Perm ks2 := (List.perm_ext_iff_of_nodup hd hd2).2 fun x => ⟨sub x, sub2 x⟩
  exact p.length_eq

/-- What the round of Same keeps. -/
structure SameRel (w : World) (n : Nat) (f g : Nat → Nat) (mb r : Nat) (pg : Nat → Option Nat) (wr : World) (left : Nat → Bool) (cnt : Nat) : Prop where
  rg : PRange wr mb r n pg left cnt
  bel : Below r w wr
  ok : ∀ x b, pg x = some b → left x = false → ∀ i, i < 512 → f (x + 8 * i) = g (x + 8 * i)

set_option maxRecDepth 100000 in
set_option maxHeartbeats 2000000 in
theorem same_c {w : World} {X Y : Nat → Prop} {a b S T n k : Nat} {f g : Nat → Nat} (h : MemAt w X a S n f) (h2 : MemAt w Y b T k g) :
    Calls Tryd.prog 11 #[.pointer (some ⟨a, 0, none⟩), .pointer (some ⟨b, 0, none⟩)] w fun e w' => (∃ q : Bool, e = .returned (.bool q) ∧ (q = true ↔ S = T ∧ f = g)) ∧ Below w.heap.size w w' := by
  obtain ⟨mb, pg, h⟩ := h
  obtain ⟨mb2, pg2, h2⟩ := h2
  have c0 := h.c0
  have c1 := h.c1
  have e0 := h2.c0
  have e1 := h2.c1
  obtain ⟨ks, hd, hk, _, hlen0⟩ := h.pgs.len
  obtain ⟨ks2, hd2, hk2, _, hlen20⟩ := h2.pgs.len
  by_cases hST : S = T
  · subst hST
    have hds : decide ((S : Int) = (S : Int)) = true := decide_eq_true rfl
    have hlen : ∀ j ty, (Builtin.len_ #[55] ty #[.map (some mb)]).run Tryd.prog (w.drewN j) = .ok (.int .i64 (ks.length : Nat)) (w.drewN j) := fun j ty => by
      obtain ⟨ks', hd', hk', _, hl'⟩ := (h.pgs.block (w' := w.drewN j) rfl).len
      have : ks.Perm ks' := (List.perm_ext_iff_of_nodup hd hd').2 fun x => (hk x).trans (hk' x).symm
      rw [this.length_eq]
      exact hl' ty
    have hlen2 : ∀ j ty, (Builtin.len_ #[55] ty #[.map (some mb2)]).run Tryd.prog (w.drewN j) = .ok (.int .i64 (ks2.length : Nat)) (w.drewN j) := fun j ty => by
      obtain ⟨ks', hd', hk', _, hl'⟩ := (h2.pgs.block (w' := w.drewN j) rfl).len
      have : ks2.Perm ks' := (List.perm_ext_iff_of_nodup hd2 hd').2 fun x => (hk2 x).trans (hk' x).symm
      rw [this.length_eq]
      exact hl' ty
    by_cases hL : ks.length = ks2.length
    · have hLi : ((ks.length : Int) = ks2.length) := by omega
      have H1 : Hid (Mem w X a S n f mb pg) := h
      have H2 : Hid (Mem w Y b S k g mb2 pg2) := h2
      have HA : Hid ((∀ x b, pg x = some b → ∀ i, i < 512 → f (x + 8 * i) = g (x + 8 * i)) → f = g) := fun hh => same_all h h2 hd hk hk2 hL hh
      clear h h2 hlen0 hlen20
      go_enter Tryd.func11, Tryd.ntmps11
      go_wp2
      go_quiet (fail)
      have hm1 : Mem (w.drewN nq) X a S n f mb pg := H1.out.kept (fun _ _ => rfl) (Nat.le_refl _)
      have hm2 : Mem (w.drewN nq) Y b S k g mb2 pg2 := H2.out.kept (fun _ _ => rfl) (Nat.le_refl _)
      have hB : Below w.heap.size w (w.drewN nq) := ⟨rfl, rfl, rfl, Nat.le_refl _, fun _ _ => rfl⟩
      have hsz : (w.drewN nq).heap.size = w.heap.size := rfl
      clear hlen hlen2 c0 c1 e0 e1
      generalize w.drewN nq = w0 at *
      have c1 := hm1.c1
      have hP := hm1.pgs
      have M1 : Hid (Mem w0 X a S n f mb pg) := hm1
      have M2 : Hid (Mem w0 Y b S k g mb2 pg2) := hm2
      have HB : Hid (Below w.heap.size w w0) := hB
      have HZ : Hid (w0.heap.size = w.heap.size) := hsz
      clear hm1 hm2 hB hsz
      go_wp2_with (first
        | (at_range; refine wpList_rangeP _ rfl _ rfl mb n pg rfl hP ?_; intro w9 cnt9 hrg9 hg9 hs9 hcn9)
        | go_in)
      go_frame
      have hR0 : SameRel w0 n f g mb w0.heap.size pg w9 (fun x => (pg x).isSome) cnt9 := ⟨hrg9, hg9, fun x b hb hl => (by rw [hb] at hl; cases hl)⟩
      clear hrg9 hg9 hs9 hcn9 hP hk hk2 hd hd2 hL hLi hds
      go_loopw [5] (fun _ wr => ∃ left cnt, SameRel w0 n f g mb w0.heap.size pg wr left cnt) (fun _ wr => wr.rangeLeft mb w0.heap.size)
      case atStart => exact ⟨_, _, hR0⟩
      case round =>
        clear hR0
        obtain ⟨left, cnt, hR⟩ := hrel
        have hrg := hR.rg
        have HR : Hid (SameRel w0 n f g mb w0.heap.size pg wr left cnt) := hR
        clear hR
        go_wp2_with (first
          | (at_next; refine wpList_nextP _ rfl _ rfl mb w0.heap.size n pg left cnt rfl hrg ?_ ?_)
          | go_in)
        · intro hl
          have HL : Hid (∀ x, x < 18446744073709551616 → left x = false) := hl
          clear hl hrg
          go_wp2
          go_ret
          have hR := HR.out
          have hfg : f = g := HA.out fun x c hc => hR.ok x c hc (HL.out x (by have := (M1.out.page x c hc).2.2.1; have := M1.out.s0; omega))
          exact ⟨⟨true, rfl, by simp [hfg]⟩, HB.out.trans (hR.bel.mono (Nat.le_of_eq HZ.out.symm))⟩
        · intro x c w1 cnt1 hx hlx hpx hrg1 hlt hg1 hs1 hen
          have hm1 := M1.out
          have hR := HR.out
          obtain ⟨p1, p2, _, p4, _⟩ := hm1.page x c hpx
          have hbel1 : Below w0.heap.size w0 w1 := hR.bel.trans ⟨hg1.os, hg1.tape, hg1.output, hg1.size, fun i hi => hg1.block i (by have := hR.bel.size; omega) (fun e => by have := Option.some.inj e; omega)⟩
          have hm2 : Mem w1 Y b S k g mb2 pg2 := M2.out.kept (fun i hi => hbel1.block i (M2.out.xlt i hi)) hbel1.size
          have hpage : ∀ W, Below w1.heap.size w1 W → Calls Tryd.prog 25 #[.pointer (some ⟨b, 0, none⟩), .int .u64 x] W fun e w'' => e = .returned (.agg (prow fun i => g (x + 8 * i))) ∧ Below w1.heap.size w1 w'' := fun W hW => (page_c (hm2.kept (fun i hi => hW.block i (hm2.xlt i hi)) hW.size) x hx p2).mono fun e w'' hh => ⟨hh.1, hW.trans (hh.2.mono hW.size)⟩
          have hrow : w1.heap[c]? = some (.cells (prow fun i => f (x + 8 * i)) 60 (0, 0)) := by
            rw [hbel1.block c (hm1.xlt _ p1)]
            exact p4
          have hclt : c < w1.heap.size := (Array.getElem?_eq_some_iff.1 hrow).1
          have heq := run_eqIn (fun i => f (x + 8 * i)) (fun i => g (x + 8 * i))
          have hsz1 := prow_size (fun i => f (x + 8 * i))
          have HQ : Hid (eqPg (fun i => f (x + 8 * i)) (fun i => g (x + 8 * i)) = true ↔ ∀ i, i < 512 → f (x + 8 * i) = g (x + 8 * i)) := eqPg_iff _ _
          generalize prow (fun i => f (x + 8 * i)) = PR at *
          generalize prow (fun i => g (x + 8 * i)) = PR2 at *
          generalize eqPg (fun i => f (x + 8 * i)) (fun i => g (x + 8 * i)) = q at *
          have HG : Hid (PRange w1 mb w0.heap.size n pg (fun y => left y && !decide (y = x)) cnt1 ∧ cnt1 < cnt ∧ Below w0.heap.size w0 w1 ∧ w0.heap.size < w1.heap.size ∧ mb < w1.heap.size) := ⟨hrg1, hlt, hbel1, hrg1.lt, hrg1.pages.lt⟩
          have HLe : Hid (wr.rangeLeft mb w0.heap.size = cnt) := hrg.left_eq
          have HP : Hid (∀ W, Below w1.heap.size w1 W → Calls Tryd.prog 25 #[.pointer (some ⟨b, 0, none⟩), .int .u64 x] W fun e w'' => e = .returned (.agg PR2) ∧ Below w1.heap.size w1 w'') := hpage
          have HW : Hid (∀ W, Below w1.heap.size w1 W → W.heap[c]? = some (.cells PR 60 (0, 0))) := fun W hW => (hW.block c hclt).trans hrow
          have HE : Hid (∀ W, (Op.equalIn 10000 60 (.agg PR) (.agg PR2)).run Tryd.prog W = .ok q W) := heq
          have HS1 : Hid (PR.size = 512) := hsz1
          clear hm1 hm2 hR hrg hrg1 hlt hg1 hs1 hbel1 hsz1 p1 p2 p4 c1 hrow hpage heq
          go_wp2
          refine wp_region_quiet (C := fun W => Below w1.heap.size w1 W) (by kernel_rfl) (by kernel_rfl) (below_class w1) ?_
          refine q_val rfl (.pointer (some ⟨c, 0, none⟩)) (fun W _ => rfl) ?_
          refine q_val rfl (.pointer (some ⟨c, 0, none⟩)) (fun W _ => rfl) ?_
          refine q_load rfl _ rfl c rfl HS1.out HW.out ?_
          refine q_val rfl (.pointer (some ⟨b, 0, none⟩)) (fun W _ => rfl) ?_
          refine q_val rfl (.int .u64 (x : Nat)) (fun W _ => rfl) ?_
          refine q_callF rfl (.agg PR2) 25 _ _ rfl #[.pointer (some ⟨b, 0, none⟩), .int .u64 (x : Nat)] rfl enter_page HP.out ?_
          refine q_nePage rfl _ _ _ rfl (PR := PR) (PR2 := PR2) rfl rfl HE.out ?_
          intro w2 hb2
          have HB2 := Hid.mk hb2
          clear hb2
          simp only [Act.put, List.setIfInBounds_toArray, List.set_cons_succ, List.set_cons_zero]
          have next : q = true → SameRel w0 n f g mb w0.heap.size pg w2 (fun y => left y && !decide (y = x)) cnt1 ∧ w2.rangeLeft mb w0.heap.size < wr.rangeLeft mb w0.heap.size := fun hq => by
            obtain ⟨k1, k2, k3, k4, k5⟩ := HG.out
            have hb2 := HB2.out
            have hrg2 := k1.blocks (hb2.block _ k5) (hb2.block _ k4)
            refine ⟨⟨hrg2, k3.trans (hb2.mono (by have := k3.size; omega)), fun y c' hc' hl => ?_⟩, ?_⟩
            · by_cases e : y = x
              · subst e; exact HQ.out.1 hq
              · exact HR.out.ok y c' hc' (by simpa [e] using hl)
            · rw [hrg2.left_eq, HLe.out]; exact k2
          have NX := Hid.mk next
          clear next
          cases hq : q with
          | true =>
            subst hq
            go_wp2
            go_roundw
            case rel => exact ⟨_, _, (NX.out rfl).1⟩
            case measure => exact (NX.out rfl).2
          | false =>
            subst hq
            go_wp2
            go_ret
            refine ⟨⟨false, rfl, by simp; intro e; subst e; exact absurd (HQ.out.2 fun _ _ => rfl) (by decide)⟩, ?_⟩
            have hh := (HG.out.2.2.1).trans (HB2.out.mono HG.out.2.2.1.size)
            exact HB.out.trans (hh.mono (Nat.le_of_eq HZ.out.symm))
    · have hLi : ¬ ((ks.length : Int) = ks2.length) := by omega
      have HQ : Hid (f ≠ g) := fun e => hL (by subst e; exact same_len h h2 hd hd2 hk hk2)
      clear h h2 hlen0 hlen20
      go_enter Tryd.func11, Tryd.ntmps11
      go_wp2
      go_quiet (fail)
      go_wp2
      go_ret
      exact ⟨⟨false, rfl, by simp; exact HQ.out⟩, ⟨rfl, rfl, rfl, Nat.le_refl _, fun _ _ => rfl⟩⟩
  · have hSTi : ¬ ((S : Int) = T) := by omega
    clear h h2 hlen0 hlen20
    go_enter Tryd.func11, Tryd.ntmps11
    go_wp2
    go_quiet (fail)
    go_wp2
    go_ret
    exact ⟨⟨false, rfl, by simp [hST]⟩, ⟨rfl, rfl, rfl, Nat.le_refl _, fun _ _ => rfl⟩⟩
end Go.Proofs.YtieldgocgjoojaaDoor
