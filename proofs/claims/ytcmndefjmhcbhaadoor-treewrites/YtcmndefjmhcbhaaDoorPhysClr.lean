/- clearPage. -/
import Derived.Test.YtcmndefjmhcbhaaDoorPhysWrite
import Derived.Great.BuildSlice
import Derived.Deep.DeepCutAuto
namespace Go.Proofs.YtcmndefjmhcbhaaDoor
open Go.RowKit Go.Maps

/-- What the page from B on has from A to E is 0. -/
def clrP (f : Nat → Nat) (B A E : Nat) : Nat → Nat := fun y => if A ≤ y ∧ y < E ∧ dn y = B then 0 else f y

def zeroF : Nat → Nat := fun _ => 0

def ClrPost (w : World) (f : Nat → Nat) (mb : Nat) (pg : Nat → Option Nat) (B A E : Nat) (w' : World) : Prop :=
  (pg B = none ∧ w' = w) ∨ ∃ b, pg B = some b ∧
    ((eqPg (fun i => clrP f B A E (B + 8 * i)) zeroF = false ∧ w' = w.setRow b (prow fun i => clrP f B A E (B + 8 * i))) ∨
     (eqPg (fun i => clrP f B A E (B + 8 * i)) zeroF = true ∧ (Builtin.delete_ #[79, 23] 0 #[.map (some mb), .int .u64 B]).run Tryd.prog (w.setRow b (prow fun i => clrP f B A E (B + 8 * i))) = .ok (.tuple #[]) w'))

section
variable {ops : Array Oper} {rest : List Oper} {o : Oper} {a : Act} {w : World} {Q : Exit → Act → World → Prop}

theorem wpList_slicePage (hg : o.guard = none) (x l h : Operand) (ho : o.op = .slice 93 x (some l) (some h) none) (b L H : Nat) (hx : a.eval x = .pointer (some ⟨b, 0, none⟩)) (q r : Int) (hl : a.eval l = .int .u64 q) (hh : a.eval h = .int .u64 r)
    (hq : q = (L : Nat)) (hr : r = (H : Nat)) (h1 : L ≤ H) (h2 : H ≤ 512) (h3 : L < 512)
    (k : wpList Tryd.prog ops Q rest (a.put o.dst (.slice (some ⟨b, L, none⟩) (H - L) (512 - L))) w) : wpList Tryd.prog ops Q (o :: rest) a w := by
  refine Great.wpList_runTo hg _ rfl (.slice (some ⟨b, L, none⟩) (H - L) (512 - L)) w ?_ k
  subst hq hr
  obtain ⟨e, ht, he, hsz⟩ := arrU
  have e1 : ¬ (512 = L) := by omega
  have e2 : (0 : Int) ≤ L ∧ (L : Int) ≤ H := by omega
  have e3 : (0 : Int) ≤ H ∧ (H : Int) ≤ 512 := by omega
  simp [execOp, ho, hx, hl, hh, Instr.sliceAt, run_underlying ht, Instr.sureAddr, Instr.sliceBounds, Instr.sliceBound, asIntOf, hsz, Result.andThen, e1, h1, h2, e3, Addr.add]
  omega

theorem wpList_clearRow (hg : o.guard = none) (x : Operand) (ho : o.op = Op.call { callee := Callee.builtin Builtin.clear, args := #[x], argTypes := #[41] }) (b L H cap : Nat) (g : Nat → Nat) (hx : a.eval x = .slice (some ⟨b, L, none⟩) (H - L) cap)
    (hb : w.heap[b]? = some (.cells (prow g) 93 (0, 0))) (h1 : L ≤ H) (h2 : H ≤ 512) {w2 : World} (hw : w.setRow b (prow fun i => if L ≤ i ∧ i < H then 0 else g i) = w2)
    (k : wpList Tryd.prog ops Q rest (a.put o.dst (.tuple #[])) w2) : wpList Tryd.prog ops Q (o :: rest) a w := by
  subst hw
  refine Great.wpList_runTo hg _ rfl (.tuple #[]) _ ?_ k
  simp [execOp, ho, resolve, invoke, builtin, hx, run_clear w o.type b L H cap g hb h1 h2, Result.andThen]

theorem wpList_deleteAt (hg : o.guard = none) (m x : Operand) (ho : o.op = Op.call { callee := Callee.builtin Builtin.delete, args := #[m, x], argTypes := #[79, 23] }) (mb B : Nat) (hm : a.eval m = .map (some mb)) (hx : a.eval x = .int .u64 (B : Nat)) {w' : World}
    (hrun : (Builtin.delete_ #[79, 23] o.type #[.map (some mb), .int .u64 (B : Nat)]).run Tryd.prog w = .ok (.tuple #[]) w')
    (k : wpList Tryd.prog ops Q rest (a.put o.dst (.tuple #[])) w') : wpList Tryd.prog ops Q (o :: rest) a w := by
  refine Great.wpList_runTo hg _ rfl (.tuple #[]) _ ?_ k
  simp [execOp, ho, resolve, invoke, builtin, hm, hx, hrun, Result.andThen]
end

theorem zeroZ (w : World) : (zeroValue 93).run Tryd.prog w = .ok (.agg (prow zeroF)) w := zeroA w

set_option maxRecDepth 100000 in
set_option maxHeartbeats 1000000 in
theorem clr_c {w : World} {X : Nat → Prop} {a S n : Nat} {f : Nat → Nat} {mb : Nat} {pg : Nat → Option Nat} (h : Mem w X a S n f mb pg) (B A E : Nat) (hB : B % 4096 = 0) (hBl : B + 4096 < 18446744073709551616) (hA : A < B + 4096) (hAE : A ≤ E) (hBE : B ≤ E)
    (hA8 : A % 8 = 0) (hE8 : E % 8 = 0) (hE : E < 18446744073709551616) :
    Calls Tryd.prog 38 #[.pointer (some ⟨a, 0, none⟩), .int .u64 B, .int .u64 A, .int .u64 E] w fun e w' => e = .returned (.tuple #[]) ∧ ClrPost w f mb pg B A E w' := by
  have c1 := h.c1
  have hBs : B < 18446744073709551616 := by omega
  have hAs : A < 18446744073709551616 := by omega
  cases hpg : pg B with
  | none =>
    have hlook := h.pgs.look_at hBs (v := .pointer none) (by rw [hpg]; rfl)
    have HP : Hid (pg B = none) := hpg
    clear h hpg
    go_enter Tryd.func38, Tryd.ntmps38
    go_wp2
    refine bodyPost_ret (results_none rfl _ _ _) rfl ?_
    exact ⟨rfl, Or.inl ⟨HP.out, rfl⟩⟩
  | some b =>
    obtain ⟨_, _, _, hrow, _⟩ := h.page _ _ hpg
    have hlook := h.pgs.look_at hBs (v := .pointer (some ⟨b, 0, none⟩)) (by rw [hpg]; rfl)
    have HP : Hid (pg B = some b) := hpg
    have hmb := h.pgs.lt
    have hnb : b ≠ mb := row_ne_map hrow h.pgs
    have hna : a ≠ b := h.a_ne_b hpg
    obtain ⟨L, hL⟩ : ∃ L, L = (max A B - B) / 8 := ⟨_, rfl⟩
    obtain ⟨H, hH⟩ : ∃ H, H = (min E (B + 4096) - B) / 8 := ⟨_, rfl⟩
    have h1 : L ≤ H := by omega
    have h2 : H ≤ 512 := by omega
    have h3 : L < 512 := by omega
    have hq1 : max A B - B = 8 * L := by omega
    have hq2 : min E (B + 4096) - B = 8 * H := by omega
    have hcl : ∀ i, i < 512 → (if L ≤ i ∧ i < H then 0 else f (B + 8 * i)) = clrP f B A E (B + 8 * i) := fun i hi => by
      unfold clrP
      have e : dn (B + 8 * i) = B := by unfold dn; omega
      by_cases c : L ≤ i ∧ i < H
      · rw [if_pos c, if_pos ⟨by omega, by omega, e⟩]
      · rw [if_neg c, if_neg (fun c2 => c ⟨by omega, by omega⟩)]
    have hrow2 : w.setRow b (prow fun i => if L ≤ i ∧ i < H then 0 else f (B + 8 * i)) = w.setRow b (prow fun i => clrP f B A E (B + 8 * i)) := by rw [prow_congr hcl]
    have hblk : (w.setRow b (prow fun i => clrP f B A E (B + 8 * i))).heap[b]? = some (.cells (prow fun i => clrP f B A E (B + 8 * i)) 93 (0, 0)) := setRow_heap _ _ _ _ _ _ hrow
    have hP2 := h.pgs.block (w' := w.setRow b (prow fun i => clrP f B A E (B + 8 * i))) (setRow_other _ _ _ _ hnb.symm)
    have c1' : (w.setRow b (prow fun i => clrP f B A E (B + 8 * i))).cell? ⟨a, 1, none⟩ = some (.map (some mb)) := by
      rw [← c1]; exact World.cell?_of_block (setRow_other _ _ _ _ hna)
    obtain ⟨w3, hdel, _, _⟩ := hP2.drop hBs 0
    have HD : Hid ((Builtin.delete_ #[79, 23] 0 #[.map (some mb), .int .u64 B]).run Tryd.prog (w.setRow b (prow fun i => clrP f B A E (B + 8 * i))) = .ok (.tuple #[]) w3) := hdel
    have hbd := zeroZ
    clear h hpg hcl hP2 hdel
    have HM1 : Hid ((max (A : Int) B - B) / 8 = (L : Nat)) := by (show _ = _; omega)
    have HM2 : Hid ((min (E : Int) (B + 4096) - B) / 8 = (H : Nat)) := by (show _ = _; omega)
    have HR : Hid (w.heap[b]? = some (.cells (prow fun i => f (B + 8 * i)) 93 (0, 0))) := hrow
    have HB : Hid ((w.setRow b (prow fun i => clrP f B A E (B + 8 * i))).heap[b]? = some (.cells (prow fun i => clrP f B A E (B + 8 * i)) 93 (0, 0))) := hblk
    have HW : Hid (w.setRow b (prow fun i => if L ≤ i ∧ i < H then 0 else f (B + 8 * i)) = w.setRow b (prow fun i => clrP f B A E (B + 8 * i))) := hrow2
    have HF : Hid (∃ w2, w2 = w.setRow b (prow fun i => clrP f B A E (B + 8 * i))) := ⟨_, rfl⟩
    obtain ⟨w2, hw2⟩ := HF.out
    rw [← hw2] at HW HB HD c1'
    have HW2 : Hid (w2 = w.setRow b (prow fun i => clrP f B A E (B + 8 * i))) := hw2
    clear hrow hblk hrow2 hw2 HF hL hH hq1 hq2
    go_enter Tryd.func38, Tryd.ntmps38
    go_wp2_with (first
      | (refine wpList_slicePage rfl _ _ _ rfl b L H rfl _ _ rfl rfl HM1.out HM2.out h1 h2 h3 ?_)
      | (refine wpList_clearRow rfl _ rfl b L H _ _ rfl HR.out h1 h2 HW.out ?_)
      | (refine wpList_load_row rfl 93 _ rfl b rfl _ _ _ _ HB.out Tryd.underlying93 rfl (info_page _) ?_)
      | (refine wpList_eqPage rfl _ _ _ rfl (fun i => clrP f B A E (B + 8 * i)) zeroF rfl rfl ?_)
      | (refine wpList_deleteAt rfl _ _ rfl mb B rfl rfl HD.out ?_))
    all_goals
      go_end0
      refine ⟨rfl, Or.inr ⟨b, HP.out, ?_⟩⟩
      rw [← HW2.out]
      rename_i hq
      first
        | exact Or.inr ⟨hq, HD.out⟩
        | exact Or.inl ⟨by simpa using hq, rfl⟩

/-- Which pages there are behind it. -/
def clrPg (f : Nat → Nat) (pg : Nat → Option Nat) (B A E : Nat) : Nat → Option Nat := if eqPg (fun i => clrP f B A E (B + 8 * i)) zeroF = true then updPg pg B none else pg

theorem clrP_other {f : Nat → Nat} {B A E y i : Nat} (hy : y % 4096 = 0) (hi : i < 512) (hne : y ≠ B) : clrP f B A E (y + 8 * i) = f (y + 8 * i) := by
  unfold clrP
  rw [if_neg]
  intro c
  have : dn (y + 8 * i) = y := by unfold dn; omega
  exact hne (this.symm.trans c.2.2)

theorem clrP_lt {f : Nat → Nat} (h : ∀ x, f x < 18446744073709551616) (B A E : Nat) : ∀ x, clrP f B A E x < 18446744073709551616 := fun x => by
  unfold clrP
  by_cases c : A ≤ x ∧ x < E ∧ dn x = B
  · rw [if_pos c]; decide
  · rw [if_neg c]; exact h x

theorem clrP_zero {f : Nat → Nat} {B A E x : Nat} (h : f x = 0) : clrP f B A E x = 0 := by
  unfold clrP
  by_cases c : A ≤ x ∧ x < E ∧ dn x = B
  · rw [if_pos c]
  · rw [if_neg c]; exact h

/-- What clearPage leaves is a memory again. -/
theorem ClrPost.mem {w w' : World} {X : Nat → Prop} {a S n : Nat} {f : Nat → Nat} {mb : Nat} {pg : Nat → Option Nat} (h : Mem w X a S n f mb pg) {B A E : Nat} (hB : B % 4096 = 0) (hBs : B < 18446744073709551616) (hp : ClrPost w f mb pg B A E w') :
    Mem w' X a S n (clrP f B A E) mb (clrPg f pg B A E) ∧ Turn X w w' := by
  rcases hp with ⟨h0, rfl⟩ | ⟨b, hb, hr⟩
  · have hf : clrP f B A E = f := by
      funext y
      unfold clrP
      by_cases c : A ≤ y ∧ y < E ∧ dn y = B
      · rw [if_pos c]
        by_cases h8 : y % 8 = 0
        · have := h.zero B hB h0 (plc y) (plc_lt y)
          rw [← c.2.2, dn_plc h8] at this
          exact this.symm
        · exact (h.out y (Or.inl h8)).symm
      · rw [if_neg c]
    have hpg : clrPg f pg B A E = pg := by
      unfold clrPg
      split
      · funext y
        unfold updPg
        by_cases e : y = B
        · rw [if_pos e, e, h0]
        · rw [if_neg e]
      · rfl
    rw [hf, hpg]
    exact ⟨h, Turn.refl _ _⟩
  · obtain ⟨q1, q2, q3, q4, q5⟩ := h.page B b hb
    have hnb : b ≠ mb := row_ne_map q4 h.pgs
    have hna : a ≠ b := h.a_ne_b hb
    have hg : w.grownBy (w.setRow b (prow fun i => clrP f B A E (B + 8 * i))) (some b) := ⟨rfl, rfl, rfl, by simp [World.setRow], fun i _ hi => setRow_other _ _ _ _ (fun e => hi (by rw [e]))⟩
    have hpage : ∀ x c, pg x = some c → x ≠ B → X c ∧ x % 4096 = 0 ∧ x < S ∧ (w.setRow b (prow fun i => clrP f B A E (B + 8 * i))).heap[c]? = some (.cells (prow fun i => clrP f B A E (x + 8 * i)) 93 (0, 0)) ∧ ∃ i, i < 512 ∧ clrP f B A E (x + 8 * i) ≠ 0 := by
      intro x c hc hx
      obtain ⟨p1, p2, p3, p4, p5⟩ := h.page x c hc
      have hcb : c ≠ b := fun e => hx (h.inj _ _ _ hc (e ▸ hb))
      refine ⟨p1, p2, p3, ?_, ?_⟩
      · rw [setRow_other _ _ _ _ hcb, p4, prow_congr (fun i hi => (clrP_other p2 hi hx).symm)]
      · obtain ⟨i, hi, h0⟩ := p5
        exact ⟨i, hi, by rw [clrP_other p2 hi hx]; exact h0⟩
    have hz : ∀ x, x % 4096 = 0 → pg x = none → ∀ i, i < 512 → clrP f B A E (x + 8 * i) = 0 := fun x hx hn i hi => clrP_zero (h.zero x hx hn i hi)
    have hs : (w.setRow b (prow fun i => clrP f B A E (B + 8 * i))).heap[a]? = w.heap[a]? := setRow_other _ _ _ _ hna
    have hsz : (w.setRow b (prow fun i => clrP f B A E (B + 8 * i))).heap.size = w.heap.size := by simp [World.setRow]
    rcases hr with ⟨he, rfl⟩ | ⟨he, hd⟩
    · have hpg : clrPg f pg B A E = pg := by unfold clrPg; rw [he]; rfl
      rw [hpg]
      refine ⟨⟨hs.trans h.str, h.pgs.block (setRow_other _ _ _ _ hnb.symm), h.xa, h.xm, by rw [hsz]; exact h.xlt, h.s0, ?_, h.inj, hz, clrP_lt h.fl B A E, fun x hx => clrP_zero (h.out x hx)⟩, turn_of_grown hg q1⟩
      intro x c hc
      by_cases hx : x = B
      · subst hx
        rw [hb] at hc
        cases hc
        refine ⟨q1, q2, q3, setRow_heap _ _ _ _ _ _ q4, ?_⟩
        rcases Classical.em (∃ i, i < 512 ∧ clrP f x A E (x + 8 * i) ≠ 0) with hh | hh
        · exact hh
        · have : eqPg (fun i => clrP f x A E (x + 8 * i)) zeroF = true := (eqPg_iff _ _).2 fun i hi => Decidable.byContradiction fun c => hh ⟨i, hi, c⟩
          rw [this] at he
          cases he
      · exact hpage x c hc hx
    · have hpg : clrPg f pg B A E = updPg pg B none := by unfold clrPg; rw [he]; rfl
      rw [hpg]
      obtain ⟨w3, hr3, hP3, hT3⟩ := (h.pgs.block (w' := w.setRow b (prow fun i => clrP f B A E (B + 8 * i))) (setRow_other _ _ _ _ hnb.symm)).drop hBs 0
      rw [hd] at hr3
      injection hr3 with _ hw3
      subst hw3
      have hg3 := hT3.grown
      have hT : Turn X w w' := (turn_of_grown hg q1).trans (turn_of_grown (X := X) hg3 h.xm) (fun i _ hi => hi)
      refine ⟨⟨?_, hP3, h.xa, h.xm, ?_, h.s0, ?_, ?_, ?_, clrP_lt h.fl B A E, fun x hx => clrP_zero (h.out x hx)⟩, hT⟩
      · rw [hg3.block a (by rw [hsz]; exact h.xlt _ h.xa) (fun e => by cases e; exact h.a_ne rfl), hs]
        exact h.str
      · intro i hi
        exact Nat.lt_of_lt_of_le (h.xlt i hi) hT.size
      · intro x c hc
        unfold updPg at hc
        by_cases hx : x = B
        · rw [if_pos hx] at hc; cases hc
        · rw [if_neg hx] at hc
          obtain ⟨p1, p2, p3, p4, p5⟩ := hpage x c hc hx
          refine ⟨p1, p2, p3, ?_, p5⟩
          rw [hg3.block c (by rw [hsz]; exact h.xlt _ p1) (fun e => by cases e; exact row_ne_map p4 (h.pgs.block (setRow_other _ _ _ _ hnb.symm)) rfl)]
          exact p4
      · intro x y c hx hy
        unfold updPg at hx hy
        by_cases ex : x = B
        · rw [if_pos ex] at hx; cases hx
        · by_cases ey : y = B
          · rw [if_pos ey] at hy; cases hy
          · rw [if_neg ex] at hx
            rw [if_neg ey] at hy
            exact h.inj _ _ _ hx hy
      · intro x hx hn i hi
        unfold updPg at hn
        by_cases ex : x = B
        · subst ex
          exact (eqPg_iff _ _).1 he i hi
        · rw [if_neg ex] at hn
          exact hz x hx hn i hi

/-- .. and a loop over its map goes on. -/
theorem ClrPost.range {w w' : World} {X : Nat → Prop} {a S n : Nat} {f : Nat → Nat} {mb r m : Nat} {pg : Nat → Option Nat} {left : Nat → Bool} {cnt : Nat} (h : Mem w X a S n f mb pg) (hrg : PRange w mb r m pg left cnt) {B A E : Nat} (hBs : B < 18446744073709551616) (hl : left B = false) (hp : ClrPost w f mb pg B A E w') :
    ∃ cnt', PRange w' mb r m (clrPg f pg B A E) left cnt' ∧ cnt' ≤ cnt := by
  rcases hp with ⟨h0, rfl⟩ | ⟨b, hb, hr⟩
  · have hpg : clrPg f pg B A E = pg := by
      unfold clrPg
      split
      · funext y
        unfold updPg
        by_cases e : y = B
        · rw [if_pos e, e, h0]
        · rw [if_neg e]
      · rfl
    rw [hpg]
    exact ⟨cnt, hrg, Nat.le_refl _⟩
  · obtain ⟨q1, q2, q3, q4, q5⟩ := h.page B b hb
    have hnb : b ≠ mb := row_ne_map q4 h.pgs
    have hnr : b ≠ r := by
      obtain ⟨s1, s2, s3, hi⟩ := hrg.isIter
      intro e
      rw [e, hi] at q4
      cases q4
    have hrg2 := hrg.blocks (w' := w.setRow b (prow fun i => clrP f B A E (B + 8 * i))) (setRow_other _ _ _ _ hnb.symm) (setRow_other _ _ _ _ hnr.symm)
    rcases hr with ⟨he, rfl⟩ | ⟨he, hd⟩
    · have hpg : clrPg f pg B A E = pg := by unfold clrPg; rw [he]; rfl
      rw [hpg]
      exact ⟨cnt, hrg2, Nat.le_refl _⟩
    · have hpg : clrPg f pg B A E = updPg pg B none := by unfold clrPg; rw [he]; rfl
      rw [hpg]
      obtain ⟨w3, cnt', hr3, hP3, hle, _⟩ := hrg2.drop hBs 0
      rw [hd] at hr3
      injection hr3 with _ hw3
      subst hw3
      have e : (fun y => left y && !decide (y = B)) = left := by
        funext y
        by_cases c : y = B
        · subst c; rw [hl]; rfl
        · simp [c]
      rw [e] at hP3
      exact ⟨cnt', hP3, hle⟩
end Go.Proofs.YtcmndefjmhcbhaaDoor
