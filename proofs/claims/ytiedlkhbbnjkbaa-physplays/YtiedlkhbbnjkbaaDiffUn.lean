/- Which pages two memories don't have alike. -/
import Derived.Test.YtiedlkhbbnjkbaaSortTop
import Derived.OwnWalk
namespace Go.Proofs.Ytiedlkhbbnjkbaa
open Go.RowKit Go.Maps

/-- v is a slice of the call's own that holds the words ts. -/
def OwnW (w : World) (base : Nat) (v : Value) (ts : List Nat) : Prop := w.ownsRow base 22 1 v ts.length (ts.map wordV)

theorem OwnW.block {w w' : World} {base : Nat} {v : Value} {ts : List Nat} (h : OwnW w base v ts) (hb : ∀ g, v.ownBlock = some g → w'.heap[g]? = w.heap[g]?) : OwnW w' base v ts := by
  refine ⟨h.1, ?_⟩
  rcases h.2 with hn | ⟨g, cap, cur, rfl, h1, h2, h3⟩
  · exact Or.inl hn
  · exact Or.inr ⟨g, cap, cur, rfl, h1, (hb g rfl).trans h2, h3⟩
theorem OwnW.lt {w : World} {base : Nat} {v : Value} {ts : List Nat} (h : OwnW w base v ts) : ∀ g, v.ownBlock = some g → base ≤ g ∧ g < w.heap.size := World.ownsRow.lt h
theorem OwnW.ne {w : World} {base : Nat} {v : Value} {ts : List Nat} (h : OwnW w base v ts) {j : Nat} {o : Obj} (hj : w.heap[j]? = some o) (ho : o.isCells = false) : some j ≠ v.ownBlock := by
  rcases h.2 with ⟨rfl, _⟩ | ⟨g, cap, cur, rfl, _, hgb, _⟩
  · simp [Value.ownBlock]
  · intro e
    have : j = g := by simpa [Value.ownBlock] using e
    subst this
    rw [hgb] at hj; cases hj; cases ho
theorem OwnW.nil (w : World) (base : Nat) : OwnW w base (.slice none 0 0) [] := World.ownsRow_nil _ _ _ _
theorem OwnW.below {w w' : World} {base : Nat} {v : Value} {ts : List Nat} (h : OwnW w base v ts) (hb : Below w.heap.size w w') : OwnW w' base v ts := h.block fun g hg => hb.block g (h.lt g hg).2
theorem OwnW.alloc {w : World} {base : Nat} {v : Value} {ts : List Nat} (h : OwnW w base v ts) (o : Obj) : OwnW (w.alloc o) base v ts := World.ownsRow.alloc h o

theorem wpList_appW (w : World) {ops : Array Oper} {rest : List Oper} {o : Oper} {a : Act} {Q : Exit → Act → World → Prop} (hg : o.guard = none) (s x : Operand) (hop : o.op = .call { callee := .builtin .append, args := #[s, x], argTypes := #[47, 47] })
    (base : Nat) (v : Value) (ts : List Nat) (hs : a.eval s = v) (hown : OwnW w base v ts) (y bb : Nat) (hx : a.eval x = .slice (some ⟨bb, 0, none⟩) 1 1) (hc : w.cell? ⟨bb, 0, none⟩ = some (.int .u64 (y : Nat))) (hlen : ts.length < 100000000) (hbase : base ≤ w.heap.size)
    (h : ∀ g cap w', OwnW w' base (.slice (some ⟨g, 0, none⟩) (ts.length + 1) cap) (ts ++ [y]) → w.grownBy w' v.ownBlock → wpList Try.prog ops Q rest (a.put o.dst (.slice (some ⟨g, 0, none⟩) (ts.length + 1) cap)) w') :
    wpList Try.prog ops Q (o :: rest) a w := by
  obtain ⟨i0, hi, hz0, hz1, hz2⟩ := info_parts info_w
  refine wpList_append_own w hg s x 47 hop base 22 i0 (.int .u64 0) 1 8 Try.underlying47 hi hz0 hz1 hz2 rfl (by decide) v ts.length (ts.map wordV) hs hown ⟨bb, 0, none⟩ 1 1 [.int .u64 (y : Nat)] hx rfl (fun j u hj => ?_) (by simp [Value.oneCell']) (by unfold maxLen; omega) (by omega) hbase ?_
  · match j, hj with
    | 0, hj => cases hj; exact hc
  · intro v' w' hown' hgrow _
    obtain ⟨g, cap, rfl⟩ := ownsRow_succ hown'
    refine h g cap w' ?_ hgrow
    show w'.ownsRow _ _ _ _ (ts ++ [y]).length ((ts ++ [y]).map wordV)
    simpa [wordV] using hown'

/-- Going through a map's pages and gathering those with D. -/
structure UnRel (w : World) (base mb r n : Nat) (pg : Nat → Option Nat) (A D : Nat → Prop) (N0 : Nat) (wr : World) (left : Nat → Bool) (cnt : Nat) (v : Value) (ts : List Nat) : Prop where
  rg : PRange wr mb r n pg left cnt
  bel : Below base w wr
  own : OwnW wr base v ts
  nd : ts.Nodup
  mem : ∀ x, x ∈ ts ↔ A x ∨ (x < 18446744073709551616 ∧ (pg x).isSome = true ∧ left x = false ∧ D x)
  len : ts.length + cnt ≤ N0

section
variable {w : World} {base mb r n : Nat} {pg : Nat → Option Nat} {A D : Nat → Prop} {N0 : Nat} {wr w1 w2 : World} {left : Nat → Bool} {cnt cnt1 : Nat} {v : Value} {ts : List Nat}

theorem UnRel.walk (h : UnRel w base mb r n pg A D N0 wr left cnt v ts) {left1 : Nat → Bool} (hrg1 : PRange w1 mb r n pg left1 cnt1) (hg1 : wr.grownBy w1 (some r)) (hb : Below w1.heap.size w1 w2) (hr : base ≤ r) (hbw : base ≤ w.heap.size) :
    PRange w2 mb r n pg left1 cnt1 ∧ Below base w w2 ∧ OwnW w2 base v ts := by
  obtain ⟨s, c, t, hit⟩ := h.rg.isIter
  refine ⟨hrg1.blocks (hb.block _ hrg1.pages.lt) (hb.block _ hrg1.lt), ?_, ?_⟩
  · have h1 : Below base w w1 := h.bel.grown hg1 (Nat.le_trans hbw h.bel.size) (fun k e => by cases e; exact hr)
    exact h1.trans (hb.mono (Nat.le_trans hbw h1.size))
  · refine (h.own.block fun g hg => hg1.block g (h.own.lt g hg).2 ?_).below hb
    intro e
    exact h.own.ne hit rfl (by rw [← e, hg])

theorem UnRel.skip (h : UnRel w base mb r n pg A D N0 wr left cnt v ts) {x : Nat} (hrg1 : PRange w1 mb r n pg (fun y => left y && !decide (y = x)) cnt1) (hlt : cnt1 < cnt) (hg1 : wr.grownBy w1 (some r)) (hb : Below w1.heap.size w1 w2) (hr : base ≤ r) (hbw : base ≤ w.heap.size) (hD : ¬ D x) :
    UnRel w base mb r n pg A D N0 w2 (fun y => left y && !decide (y = x)) cnt1 v ts := by
  obtain ⟨q1, q2, q3⟩ := h.walk hrg1 hg1 hb hr hbw
  refine ⟨q1, q2, q3, h.nd, fun y => ?_, by have := h.len; omega⟩
  rw [h.mem y]
  by_cases e : y = x
  · subst e; simp [hD]
  · simp [e]

theorem UnRel.add (h : UnRel w base mb r n pg A D N0 wr left cnt v ts) {x b : Nat} (hrg1 : PRange w1 mb r n pg (fun y => left y && !decide (y = x)) cnt1) (hlt : cnt1 < cnt) (hg1 : wr.grownBy w1 (some r)) (hb : Below w1.heap.size w1 w2) (hr : base ≤ r) (hbw : base ≤ w.heap.size) (hD : D x) (hA : ¬ A x) (hx : x < 18446744073709551616) (hl : left x = true) (hp : pg x = some b)
    {tmp : Obj} {w3 : World} {v' : Value} (hown : OwnW w3 base v' (ts ++ [x])) (hgr : (w2.alloc tmp).grownBy w3 v.ownBlock) :
    UnRel w base mb r n pg A D N0 w3 (fun y => left y && !decide (y = x)) cnt1 v' (ts ++ [x]) := by
  obtain ⟨q1, q2, q3⟩ := h.walk hrg1 hg1 hb hr hbw
  have q3a := q3.alloc tmp
  have hal : Below w2.heap.size w2 (w2.alloc tmp) := (Below.refl _ _).alloc (Nat.le_refl _) _
  have q1a : PRange (w2.alloc tmp) mb r n pg (fun y => left y && !decide (y = x)) cnt1 := q1.blocks (hal.block _ q1.pages.lt) (hal.block _ q1.lt)
  obtain ⟨es, ck, hmap⟩ := q1a.pages.isMap
  obtain ⟨s, c, t, hit⟩ := q1a.isIter
  have q2a : Below base w (w2.alloc tmp) := q2.trans (hal.mono (Nat.le_trans hbw q2.size))
  refine ⟨q1a.blocks (hgr.block _ q1a.pages.lt (q3a.ne hmap rfl)) (hgr.block _ q1a.lt (q3a.ne hit rfl)), q2a.grown hgr (Nat.le_trans hbw q2a.size) (fun k e => (q3a.lt k e).1), hown, ?_, fun y => ?_, by have := h.len; simp; omega⟩
  · refine List.nodup_append.2 ⟨h.nd, by simp, fun y hy z hz => ?_⟩
    simp at hz; subst hz
    intro e
    subst e
    rcases (h.mem y).1 hy with hh | hh
    · exact hA hh
    · rw [hl] at hh; cases hh.2.2.1
  · simp only [List.mem_append, List.mem_singleton, h.mem y]
    by_cases e : y = x
    · subst e; simp [hx, hp, hD]
    · simp [e]
end

/-- Do two memories part in the page from x on? -/
def Unl (f g : Nat → Nat) (x : Nat) : Prop := x % 4096 = 0 ∧ ∃ i, i < 512 ∧ f (x + 8 * i) ≠ g (x + 8 * i)

theorem unl_iff {w w2 : World} {X Y : Nat → Prop} {a b S n k : Nat} {f g : Nat → Nat} {mb mb2 : Nat} {pg pg2 : Nat → Option Nat} (h : Mem w X a S n f mb pg) (h2 : Mem w2 Y b S k g mb2 pg2) (x : Nat) :
    ((x < 18446744073709551616 ∧ (pg x).isSome = true ∧ (∃ i, i < 512 ∧ f (x + 8 * i) ≠ g (x + 8 * i))) ∨ (x < 18446744073709551616 ∧ (pg2 x).isSome = true ∧ pg x = none)) ↔ Unl f g x := by
  have hs := h.s0
  have hlt : ∀ {b : Nat}, pg x = some b → x < 18446744073709551616 ∧ x % 4096 = 0 := fun e => by
    obtain ⟨_, p2, p3, _⟩ := h.page x _ e
    exact ⟨by omega, p2⟩
  have hlt2 : ∀ {b : Nat}, pg2 x = some b → x < 18446744073709551616 ∧ x % 4096 = 0 := fun e => by
    obtain ⟨_, p2, p3, _⟩ := h2.page x _ e
    exact ⟨by omega, p2⟩
  constructor
  · rintro (⟨h1, h3, h4⟩ | ⟨h1, h3, h4⟩)
    · obtain ⟨c, hc⟩ := Option.isSome_iff_exists.1 h3
      exact ⟨(hlt hc).2, h4⟩
    · obtain ⟨c, hc⟩ := Option.isSome_iff_exists.1 h3
      obtain ⟨_, p2, _, _, i, hi, h0⟩ := h2.page x c hc
      exact ⟨p2, i, hi, by rw [h.zero x p2 h4 i hi]; exact Ne.symm h0⟩
  · rintro ⟨h1, i, hi, hne⟩
    cases e : pg x with
    | some c => exact Or.inl ⟨(hlt e).1, rfl, i, hi, hne⟩
    | none =>
      cases e2 : pg2 x with
      | some c => exact Or.inr ⟨(hlt2 e2).1, rfl, rfl⟩
      | none => exact absurd ((h.zero x h1 e i hi).trans (h2.zero x h1 e2 i hi).symm) hne

set_option maxRecDepth 100000 in
set_option maxHeartbeats 4000000 in
theorem unlike_c {w : World} {X Y : Nat → Prop} {a b S n k : Nat} {f g : Nat → Nat} (h : MemAt w X a S n f) (h2 : MemAt w Y b S k g) (hn : n + k < 100000000) :
    Calls Try.prog 34 #[.pointer (some ⟨a, 0, none⟩), .pointer (some ⟨b, 0, none⟩)] w fun e w' => ∃ v ts, e = .returned v ∧ ts.Pairwise (fun x y => x < y) ∧ (∀ x, x ∈ ts ↔ Unl f g x) ∧ ts.length ≤ n + k ∧ Wsl w' w.heap.size v ts ∧ Below w.heap.size w w' := by
  obtain ⟨mb, pg, h⟩ := h
  obtain ⟨mb2, pg2, h2⟩ := h2
  have c1 := h.c1
  have hP := h.pgs
  have M1 := Hid.mk h
  have M2 := Hid.mk h2
  clear h h2
  go_enter Try.func34, Try.ntmps34
  go_wp2_with (first
    | (at_range; refine wpList_rangeP _ rfl _ rfl mb n pg rfl hP ?_; intro w9 cnt9 hrg9 hg9 hs9 hcn9)
    | go_in)
  go_frame
  have hR0 : UnRel w w.heap.size mb w.heap.size n pg (fun _ => False) (fun x => ∃ i, i < 512 ∧ f (x + 8 * i) ≠ g (x + 8 * i)) n w9 (fun x => (pg x).isSome) cnt9 (.slice none 0 0) [] :=
    ⟨hrg9, hg9, OwnW.nil _ _, List.nodup_nil, fun x => by
      constructor
      · intro h; cases h
      · rintro (h | ⟨_, h1, h2, _⟩)
        · exact h.elim
        · exact absurd (h1.symm.trans h2) (by decide), by simpa using hcn9⟩
  clear hrg9 hg9 hs9 hcn9 hP c1
  go_loopw [5, 6, 7] (fun s5 _ _ wr => ∃ left cnt v ts, v = s5 ∧ UnRel w w.heap.size mb w.heap.size n pg (fun _ => False) (fun x => ∃ i, i < 512 ∧ f (x + 8 * i) ≠ g (x + 8 * i)) n wr left cnt v ts) (fun _ _ _ wr => wr.rangeLeft mb w.heap.size)
  case atStart => exact ⟨_, _, _, _, rfl, hR0⟩
  case round =>
    clear hR0
    obtain ⟨left, cnt, v, ts, rfl, hR⟩ := hrel
    have hrg := hR.rg
    have HR := Hid.mk hR
    clear hR
    go_wp2_with (first
      | (at_next; refine wpList_nextP _ rfl _ rfl mb w.heap.size n pg left cnt rfl hrg ?_ ?_)
      | go_in)
    · intro hl
      have hU := HR.out
      obtain ⟨wa, hwa⟩ : ∃ wa, wa = wr := ⟨_, rfl⟩
      subst hwa
      have hA : ts.Nodup ∧ (∀ x, x ∈ ts ↔ (x < 18446744073709551616 ∧ (pg x).isSome = true ∧ ∃ i, i < 512 ∧ f (x + 8 * i) ≠ g (x + 8 * i))) ∧ ts.length ≤ n := by
        refine ⟨hU.nd, fun x => ?_, by have := hU.len; omega⟩
        rw [hU.mem x]
        constructor
        · rintro (h0 | ⟨h1, h2, _, h3⟩)
          · exact h0.elim
          · exact ⟨h1, h2, h3⟩
        · rintro ⟨h1, h2, h3⟩
          exact Or.inr ⟨h1, h2, hl x h1, h3⟩
      have hB := hU.bel
      have hO := hU.own
      have hm1 : Mem wa X a S n f mb pg := M1.out.kept (fun i hi => hB.block i (M1.out.xlt i hi)) hB.size
      have hm2 : Mem wa Y b S k g mb2 pg2 := M2.out.kept (fun i hi => hB.block i (M2.out.xlt i hi)) hB.size
      have HU : Hid (∀ x, ((x ∈ ts) ∨ (x < 18446744073709551616 ∧ (pg2 x).isSome = true ∧ pg x = none)) ↔ Unl f g x) := fun x => by rw [hA.2.1 x]; exact unl_iff M1.out M2.out x
      have e1 := hm2.c1
      have hP2 := hm2.pgs
      have HA := Hid.mk hA
      have HB := Hid.mk hB
      have HO := Hid.mk hO
      have N1 := Hid.mk hm1
      clear hU hA hB hO hm1 hm2 hrg hl HR
      go_wp2_with (first
        | (at_range; refine wpList_rangeP _ rfl _ rfl mb2 k pg2 rfl hP2 ?_; intro w8 cnt8 hrg8 hg8 hs8 hcn8)
        | go_in)
      go_frame
      have hR0 : UnRel w w.heap.size mb2 wa.heap.size k pg2 (fun x => x ∈ ts) (fun x => pg x = none) (ts.length + k) w8 (fun x => (pg2 x).isSome) cnt8 v ts :=
        ⟨hrg8, HB.out.trans (hg8.mono HB.out.size), HO.out.below hg8, HA.out.1, fun x => by
          constructor
          · intro h; exact Or.inl h
          · rintro (h | ⟨_, h1, h2, _⟩)
            · exact h
            · exact absurd (h1.symm.trans h2) (by decide), by omega⟩
      clear hrg8 hg8 hs8 hcn8 hP2 e1
      go_loopw [5, 8] (fun t5 _ wr => ∃ left cnt v2 ts2, v2 = t5 ∧ UnRel w w.heap.size mb2 wa.heap.size k pg2 (fun x => x ∈ ts) (fun x => pg x = none) (ts.length + k) wr left cnt v2 ts2) (fun _ _ wr => wr.rangeLeft mb2 wa.heap.size)
      case atStart => exact ⟨_, _, _, _, rfl, hR0⟩
      case round =>
        clear hR0
        obtain ⟨left2, cnt2, v2, ts2, rfl, hR⟩ := hrel
        have hrg := hR.rg
        have HR := Hid.mk hR
        clear hR
        go_wp2_with (first
          | (at_next; refine wpList_nextP _ rfl _ rfl mb2 wa.heap.size k pg2 left2 cnt2 rfl hrg ?_ ?_)
          | go_in)
        · intro hl
          have hU := HR.out
          have hF : (∀ x, x ∈ ts2 ↔ Unl f g x) ∧ ts2.Nodup ∧ ts2.length ≤ n + k ∧ Below w.heap.size w wr := by
            refine ⟨fun x => ?_, hU.nd, by have := hU.len; have := HA.out.2.2; omega, hU.bel⟩
            rw [hU.mem x, ← HU.out x]
            constructor
            · rintro (h0 | ⟨h1, h2, _, h3⟩)
              · exact Or.inl h0
              · exact Or.inr ⟨h1, h2, h3⟩
            · rintro (h0 | ⟨h1, h2, h3⟩)
              · exact Or.inl h0
              · exact Or.inr ⟨h1, h2, hl x h1, h3⟩
          have HF := Hid.mk hF
          have hown := hU.own
          have hlen2 := hF.2.2.1
          clear hU hF hl hrg HR
          rcases own_rw hown with ⟨rfl, rfl⟩ | ⟨b2, cap, rfl, h1, h2, h3⟩
          · go_wp2_with fail
            refine (sort_nil _).mono ?_
            rintro e w2 ⟨rfl, rfl⟩
            go_wp2
            go_ret
            exact ⟨_, [], rfl, List.Pairwise.nil, HF.out.1, by simp, Or.inl ⟨rfl, rfl⟩, HF.out.2.2.2⟩
          · have hs := sort_c cap h3 h2 (by rw [wA_size]; omega)
            have HL := Hid.mk h1
            have HZ := Hid.mk (wA_size ts2)
            rw [wA_size] at hs
            clear hown h3 h1
            generalize hn2 : ts2.length = n2 at *
            have HN := Hid.mk hn2
            clear hn2
            go_wp2_with fail
            refine hs.mono ?_
            rintro e w2 ⟨rfl, hw⟩
            have HW := Hid.mk hw
            clear hs hw
            go_wp2
            go_ret
            obtain ⟨e, hp, hso, ht⟩ := HW.out
            rw [← HZ.out] at hp hso
            obtain ⟨us, rfl, h5, h6⟩ := sorted_words hp hso
            have hlen : us.length = n2 := h5.length_eq.trans HN.out
            refine ⟨.slice (some ⟨b2, 0, none⟩) n2 cap, us, rfl, List.Pairwise.imp₂ (fun x y h1 h2 => Nat.lt_of_le_of_ne h1 h2) h6 (h5.nodup_iff.2 HF.out.2.1), fun x => (h5.mem_iff).trans (HF.out.1 x), by omega, Or.inr ⟨b2, cap, by rw [hlen], HL.out, ht.lt, fun j hj => ?_⟩, ?_⟩
            · rw [(ht.1 j (by rw [wA_size]; exact hj)).1, wA_get us hj]
            · exact HF.out.2.2.2.trans (ht.2.1.below (fun i hi => by have := HL.out; omega) HF.out.2.2.2.size)
        · intro x c w1 cnt1 hx hlx hpx hrg1 hlt hg1 hs1 hen
          have hR := HR.out
          have hbel1 : Below w.heap.size w w1 := hR.bel.grown hg1 hR.bel.size (fun k e => by cases e; exact HB.out.size)
          have hm1 : Mem w1 X a S n f mb pg := M1.out.kept (fun i hi => hbel1.block i (M1.out.xlt i hi)) hbel1.size
          have c1 := hm1.c1
          have HLe : Hid (wr.rangeLeft mb2 wa.heap.size = cnt2) := hrg.left_eq
          have HX := Hid.mk (And.intro hx (And.intro hlx hpx))
          have HG := Hid.mk (And.intro hrg1 (And.intro hlt hg1))
          have HC := Hid.mk HB.out.size
          have HLN := Hid.mk (And.intro hR.len (And.intro hlt HA.out.2.2))
          cases hpm : pg x with
          | some d =>
            have hlook := hm1.pgs.look_at hx (v := .pointer (some ⟨d, 0, none⟩)) (by rw [hpm]; rfl)
            have hnext := hR.skip hrg1 hlt hg1 (Below.refl _ _) HC.out (Nat.le_refl _) (by rw [hpm]; exact fun h => by cases h)
            have HNX := Hid.mk hnext
            clear hnext hm1 hR hbel1 hrg hrg1 hlt hg1 hs1 hx hlx hpx hpm
            go_wp2
            go_roundw
            case rel => exact ⟨_, _, _, _, rfl, HNX.out⟩
            case measure => rw [HNX.out.rg.left_eq, HLe.out]; exact HG.out.2.1
          | none =>
            have hlook := hm1.pgs.look_at hx (v := .pointer none) (by rw [hpm]; rfl)
            have hNA : Hid (x ∉ ts) := fun hm => by
              have := ((HA.out.2.1 x).1 hm).2.1
              rw [hpm] at this; cases this
            have HPM := Hid.mk hpm
            have hown2 := (hR.walk hrg1 hg1 (Below.refl _ _) HC.out (Nat.le_refl _)).2
            have HO2 := Hid.mk hown2.2
            have hsz := hown2.1.size
            have hl2 := HLN.out
            clear hown2 hm1 hR hbel1 hrg hrg1 hlt hg1 hs1 hx hlx hpx hpm
            go_wp2_with (first
              | (at_builtin; refine wpList_appW _ rfl _ _ rfl w.heap.size _ ts2 rfl (HO2.out.alloc _) x w1.heap.size rfl (by simp) (by omega) (by simp; omega) ?_; intro g3 cap3 w3 hown3 hgr3)
              | go_in)
            have hnext := HR.out.add HG.out.1 HG.out.2.1 HG.out.2.2 (Below.refl _ _) HC.out (Nat.le_refl _) HPM.out hNA.out HX.out.1 HX.out.2.1 HX.out.2.2 hown3 hgr3
            have HNX := Hid.mk hnext
            clear hnext hown3 hgr3
            go_roundw
            case rel => exact ⟨_, _, _, _, rfl, HNX.out⟩
            case measure => rw [HNX.out.rg.left_eq, HLe.out]; exact HG.out.2.1
    · intro x c w1 cnt1 hx hlx hpx hrg1 hlt hg1 hs1 hen
      have hm1 := M1.out
      have hR := HR.out
      obtain ⟨p1, p2, _, p4, _⟩ := hm1.page x c hpx
      have hbel1 : Below w.heap.size w w1 := hR.bel.grown hg1 hR.bel.size (fun k e => by cases e; exact Nat.le_refl _)
      have hm2 : Mem w1 Y b S k g mb2 pg2 := M2.out.kept (fun i hi => hbel1.block i (M2.out.xlt i hi)) hbel1.size
      have hpage : ∀ W, Below w1.heap.size w1 W → Calls Try.prog 33 #[.pointer (some ⟨b, 0, none⟩), .int .u64 x] W fun e w'' => e = .returned (.agg (prow fun i => g (x + 8 * i))) ∧ Below w1.heap.size w1 w'' := fun W hW => (page_c (hm2.kept (fun i hi => hW.block i (hm2.xlt i hi)) hW.size) x hx p2).mono fun e w'' hh => ⟨hh.1, hW.trans (hh.2.mono hW.size)⟩
      have hrow : w1.heap[c]? = some (.cells (prow fun i => f (x + 8 * i)) 68 (0, 0)) := by
        rw [hbel1.block c (hm1.xlt _ p1)]
        exact p4
      have hclt : c < w1.heap.size := (Array.getElem?_eq_some_iff.1 hrow).1
      have heq := run_eqIn (fun i => f (x + 8 * i)) (fun i => g (x + 8 * i))
      have hsz1 := prow_size (fun i => f (x + 8 * i))
      have HQ : Hid (eqPg (fun i => f (x + 8 * i)) (fun i => g (x + 8 * i)) = true ↔ ∀ i, i < 512 → f (x + 8 * i) = g (x + 8 * i)) := eqPg_iff _ _
      generalize prow (fun i => f (x + 8 * i)) = PR at *
      generalize prow (fun i => g (x + 8 * i)) = PR2 at *
      generalize eqPg (fun i => f (x + 8 * i)) (fun i => g (x + 8 * i)) = q at *
      have HG := Hid.mk (And.intro hrg1 (And.intro hlt hg1))
      have HX := Hid.mk (And.intro hx (And.intro hlx hpx))
      have HLe : Hid (wr.rangeLeft mb w.heap.size = cnt) := hrg.left_eq
      have HP : Hid (∀ W, Below w1.heap.size w1 W → Calls Try.prog 33 #[.pointer (some ⟨b, 0, none⟩), .int .u64 x] W fun e w'' => e = .returned (.agg PR2) ∧ Below w1.heap.size w1 w'') := hpage
      have HW : Hid (∀ W, Below w1.heap.size w1 W → W.heap[c]? = some (.cells PR 68 (0, 0))) := fun W hW => (hW.block c hclt).trans hrow
      have HE : Hid (∀ W, (Op.equalIn 10000 68 (.agg PR) (.agg PR2)).run Try.prog W = .ok q W) := heq
      have HS1 : Hid (PR.size = 512) := hsz1
      clear hm1 hm2 hR hrg hrg1 hlt hg1 hs1 hbel1 hsz1 p1 p2 p4 hrow hpage heq hx hlx hpx
      go_wp2
      refine wp_region_quiet (C := fun W => Below w1.heap.size w1 W) (by kernel_rfl) (by kernel_rfl) (below_class w1) ?_
      refine q_val rfl (.pointer (some ⟨c, 0, none⟩)) (fun W _ => rfl) ?_
      refine q_val rfl (.pointer (some ⟨c, 0, none⟩)) (fun W _ => rfl) ?_
      refine q_load rfl _ rfl c rfl HS1.out HW.out ?_
      refine q_val rfl (.pointer (some ⟨b, 0, none⟩)) (fun W _ => rfl) ?_
      refine q_val rfl (.int .u64 (x : Nat)) (fun W _ => rfl) ?_
      refine q_callF rfl (.agg PR2) 33 _ _ rfl #[.pointer (some ⟨b, 0, none⟩), .int .u64 (x : Nat)] rfl enter_page HP.out ?_
      refine q_nePage rfl _ _ _ rfl (PR := PR) (PR2 := PR2) rfl rfl HE.out ?_
      intro w2 hb2
      have HB2 := Hid.mk hb2
      clear hb2
      simp only [Act.put, List.setIfInBounds_toArray, List.set_cons_succ, List.set_cons_zero]
      cases hq : q with
      | true =>
        subst hq
        have hnext := HR.out.skip HG.out.1 HG.out.2.1 HG.out.2.2 HB2.out (Nat.le_refl _) (Nat.le_refl _) (by rintro ⟨i, hi, hne⟩; exact hne (HQ.out.1 rfl i hi))
        have HNX := Hid.mk hnext
        clear hnext
        go_wp2
        go_roundw
        case rel => exact ⟨_, _, _, _, rfl, HNX.out⟩
        case measure => rw [HNX.out.rg.left_eq, HLe.out]; exact HG.out.2.1
      | false =>
        subst hq
        have hown2 := (HR.out.walk HG.out.1 HG.out.2.2 HB2.out (Nat.le_refl _) (Nat.le_refl _)).2
        have HD : Hid (∃ i, i < 512 ∧ f (x + 8 * i) ≠ g (x + 8 * i)) := by
          show ∃ i, i < 512 ∧ f (x + 8 * i) ≠ g (x + 8 * i)
          apply Classical.byContradiction
          intro hc
          have := HQ.out.2 (fun i hi => by
            apply Classical.byContradiction
            intro hne
            exact hc ⟨i, hi, hne⟩)
          cases this
        have HO := Hid.mk hown2.2
        have hsz := hown2.1.size
        have hl2 := HR.out.len
        have hl3 := HG.out.2.1
        clear hown2
        go_wp2_with (first
          | (at_builtin; refine wpList_appW _ rfl _ _ rfl w.heap.size _ ts rfl (HO.out.alloc _) x w2.heap.size rfl (by simp) (by omega) (by simp; omega) ?_; intro g3 cap3 w3 hown3 hgr3)
          | go_in)
        have hnext := HR.out.add HG.out.1 HG.out.2.1 HG.out.2.2 HB2.out (Nat.le_refl _) (Nat.le_refl _) HD.out (fun h => h) HX.out.1 HX.out.2.1 HX.out.2.2 hown3 hgr3
        have HNX := Hid.mk hnext
        clear hnext hown3 hgr3
        go_roundw
        case rel => exact ⟨_, _, _, _, rfl, HNX.out⟩
        case measure => rw [HNX.out.rg.left_eq, HLe.out]; exact HG.out.2.1
end Go.Proofs.Ytiedlkhbbnjkbaa
