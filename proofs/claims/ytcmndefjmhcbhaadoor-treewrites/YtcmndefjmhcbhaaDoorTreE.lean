/- A range over a function whose iterator keeps blocks of its own: footprints. -/
import Derived.Test.YtcmndefjmhcbhaaDoorSegs
import Derived.RangeFuncNested
import Derived.RangeFuncBound
import Derived.RangeFuncCalls
import Derived.RangeFuncLeaves
import Derived.RangeFuncBox
set_option linter.unusedVariables false
namespace Go.Proofs.YtcmndefjmhcbhaaDoor
open Go.RowKit
namespace TE

variable {α : Type} {F : Fence} {n : Nat} {P : Program}

theorem turn_putObj (W : World) (l : Nat) (o : Obj) : Turn (fun i => i = l) W (W.putObj l o) := ⟨rfl, rfl, rfl, by simp, fun _ _ h => World.putObj_heap_other h⟩
/-- An iterator's contract. L: what comes; Z0: the blocks that it has made ahead; Hd: what it wants to be told between two rounds; J: what the rounds keep, Y: the blocks that they may turn. -/
def SeqT (F : Fence) (n : Nat) (P : Program) (g : Nat) (lb : Array Value) (encs : α → Array Value) (Z0 : Nat → Prop) (Hd : List α → World → Prop) (L : List α) (w : World) : Prop :=
  ∀ (l : Nat) (J Jx : List α → (Nat → Prop) → World → Prop) (W : World) (Y : Nat → Prop),
    w.heap.size ≤ W.heap.size → (∀ i, Z0 i → i < w.heap.size ∧ W.heap[i]? = w.heap[i]? ∧ ¬ Y i) →
    (∀ s Y A, J s Y A → ∀ i, Y i → i < A.heap.size) →
    (∀ s Y Z A C, J s Y A → Turn Z A C → (∀ i, Y i → ¬ Z i) → J s Y C) →
    (∀ s Y Z A C, Jx s Y A → Turn Z A C → (∀ i, Y i → ¬ Z i) → Jx s Y C) →
    (∀ s Y A, J s Y A → Hd s A) →
    (∀ pre x rest Y1 W1, L = pre ++ x :: rest → J pre Y1 W1 → YieldAt F (n - 1) P l (encs x) W1 fun e W' => ∃ Y2, Turn Y1 W1 W' ∧ (∀ i, i < W1.heap.size → Y2 i → Y1 i) ∧
      ((e = .returned (.bool true) ∧ J (pre ++ [x]) Y2 W') ∨ (e = .returned (.bool false) ∧ Jx (pre ++ [x]) Y2 W'))) →
    J [] Y W →
    CallsIn F n P g (#[.func (.yield l) #[] #[]] ++ lb) W fun e W' => (∃ v, e = .returned v) ∧ ∃ Y2, (∀ i, i < W.heap.size → Y2 i → Y i) ∧ Turn (fun i => Y i ∨ Z0 i) W W' ∧
      (J L Y2 W' ∨ ∃ pre, pre <+: L ∧ Jx pre Y2 W')

/-- How a round's body may be left. -/
def postT (Y : Nat → Prop) (sz : Nat) (I : List α → (Nat → Prop) → World → Prop) (Ix : Code → List α → (Nat → Prop) → World → Prop) (xs : List α) (W : World) : Exit → Act → World → Prop
  | .normal, _, W' => ∃ Y2, Turn (fun i => Y i ∨ sz ≤ i) W W' ∧ (∀ i, i < sz → Y2 i → Y i) ∧ I xs Y2 W'
  | .ret, _, W' => ∃ Y2, Turn (fun i => Y i ∨ sz ≤ i) W W' ∧ (∀ i, i < sz → Y2 i → Y i) ∧ Ix .ret xs Y2 W'
  | .exit id, _, W' => ∃ Y2, Turn (fun i => Y i ∨ sz ≤ i) W W' ∧ (∀ i, i < sz → Y2 i → Y i) ∧ Ix (.exit id) xs Y2 W'
  | .goto t, _, W' => ∃ Y2, Turn (fun i => Y i ∨ sz ≤ i) W W' ∧ (∀ i, i < sz → Y2 i → Y i) ∧ Ix (.goto t) xs Y2 W'
  | .panic _, _, _ => False
  | .outgrown, _, _ => False

theorem rf_law {g : Operand} {ps : Array Tmp} {assign body : Code} {Q : Exit → Act → World → Prop} {a : Act} {w : World}
    (hro : F.round = none) (h1 : 1 ≤ n) {gf : Nat} {lb : Array Value} (hg : a.eval g = .func (.func gf) #[] lb) (hFg : F.fn gf) (eg : ∀ args w, (callFunc gf args).run P w = .ok (.enter gf args) w)
    {encs : α → Array Value} {Z0 : Nat → Prop} {Hd : List α → World → Prop} {L : List α} (hseq : SeqT F (n - 1) P gf lb encs Z0 Hd L w) (hps : ∀ x, (encs x).size = ps.size)
    (I : List α → (Nat → Prop) → World → Prop) (Ix : Code → List α → (Nat → Prop) → World → Prop)
    (hlt : ∀ s Y A, I s Y A → ∀ i, Y i → i < A.heap.size)
    (hI : ∀ s Y Z A C, I s Y A → Turn Z A C → (∀ i, Y i → ¬ Z i) → I s Y C)
    (hIx : ∀ c s Y Z A C, Ix c s Y A → Turn Z A C → (∀ i, Y i → ¬ Z i) → Ix c s Y C)
    (hHd : ∀ s Y A, I s Y A → Hd s A)
    (Y0 : Nat → Prop) (h0 : I [] Y0 w) (hZ : ∀ i, Z0 i → i < w.heap.size ∧ ¬ Y0 i)
    (hround : ∀ (l sz : Nat) (pre : List α) (x : α) (rest : List α) (Y : Nat → Prop) (W : World), L = pre ++ x :: rest → I pre Y W → sz = W.heap.size → l < sz → ¬ Y l →
      assign.wpIn (F.inRound l) (n - 1 - 1) P (Exit.then (fun a' W' => Below W.heap.size W W' ∧ ∀ W2, Turn (fun i => i = l) W' W2 → I pre Y W2 → body.wpIn (F.inRound l) (n - 1 - 1) P (postT Y sz I Ix (pre ++ [x]) W2) a' W2) (fun _ _ _ => False))
        { tmps := (ps.zip (encs x)).foldl (fun t (p, v) => t.setIfInBounds p v) a.tmps, defers := [] } W)
    (hdone : ∀ (D : Nat) (Y : Nat → Prop) (W : World), w.heap.size ≤ D → I L Y W → ¬ Y D → (∀ i, i < w.heap.size → Y i → Y0 i) → Turn (fun i => Y0 i ∨ Z0 i) w W → W.heap[D]? = some (.deferred (some [])) → Q .normal { a with defers := { target := .collected D, args := #[] } :: a.defers } W)
    (hstop : ∀ (D : Nat) (c : Code) (pre : List α) (Y : Nat → Prop) (W : World), w.heap.size ≤ D → pre <+: L → Ix c pre Y W → ¬ Y D → (∀ i, i < w.heap.size → Y i → Y0 i) → Turn (fun i => Y0 i ∨ Z0 i) w W → W.heap[D]? = some (.deferred (some [])) → c.wpIn F n P Q { a with defers := { target := .collected D, args := #[] } :: a.defers } W) :
    (Code.rangeFunc g ps assign body).wpIn F n P Q a w := by
  refine wpIn_rangeFunc ?_
  intro fn hfn
  rw [hro]
  obtain ⟨rec, hrec⟩ : ∃ rec : LoopState → Option Code → Loop, rec = fun st pe => { state := st, pending := pe, fn, tmps := a.tmps, params := ps, assign, body, defers := w.heap.size } := ⟨_, rfl⟩
  obtain ⟨W1, hW1⟩ : ∃ W1, (w.alloc (.deferred (some []))).alloc (.loop (rec .ready none)) = W1 := ⟨_, rfl⟩
  have hL1 : W1.heap[w.heap.size + 1]? = some (.loop (rec .ready none)) := by
    rw [← hW1]; have := World.alloc_heap_new (w.alloc (.deferred (some []))) (.loop (rec .ready none)); rwa [World.size_alloc] at this
  have hK1 : W1.heap[w.heap.size]? = some (.deferred (some [])) := by
    rw [← hW1]; exact (Below.heap_alloc _ _ _ (by simp)).trans (World.alloc_heap_new w _)
  have hb1 : Below w.heap.size w W1 := by
    rw [← hW1]; exact ((Below.refl _ w).alloc (Nat.le_refl _) _).alloc (by simp) _
  have hs1 : W1.heap.size = w.heap.size + 2 := by rw [← hW1]; simp
  have hI1 : I [] Y0 W1 := hI _ _ (fun _ => False) _ _ h0 (turn_of_below _ hb1) (fun _ _ q => q)
  have hY0 := hlt _ _ _ h0
  refine ⟨w.heap.size + 1, [{ target := .collected w.heap.size, args := #[] }], W1, { target := .fn (.func gf) lb, args := #[.func (.yield (w.heap.size + 1)) #[] #[]] }, W1, gf,
    #[.func (.yield (w.heap.size + 1)) #[] #[]] ++ lb, W1, ?_, ?_, ?_, ?_, fun _ => h1, ?_⟩
  · rw [← hW1, hrec]; exact run_enterLoop_outer _ _ _ _ _
  · simp only [resolve, hg]
    simp [go_sem]
  · intro f' hf'; simp [Target.leads] at hf'; subst hf'; exact hFg
  · simp [invoke, go_sem, eg]
  · refine (hseq (w.heap.size + 1)
      (fun pre Y' W => ∃ Y, (∀ i, Y' i ↔ Y i ∨ i = w.heap.size ∨ i = w.heap.size + 1) ∧ I pre Y W ∧ ¬ Y w.heap.size ∧ ¬ Y (w.heap.size + 1) ∧ W.heap[w.heap.size + 1]? = some (.loop (rec .ready none)) ∧ W.heap[w.heap.size]? = some (.deferred (some [])))
      (fun pre Y' W => ∃ Y c, (∀ i, Y' i ↔ Y i ∨ i = w.heap.size ∨ i = w.heap.size + 1) ∧ Ix c pre Y W ∧ ¬ Y w.heap.size ∧ ¬ Y (w.heap.size + 1) ∧ W.heap[w.heap.size + 1]? = some (.loop (rec .done (some c))) ∧ W.heap[w.heap.size]? = some (.deferred (some [])))
      W1 (fun i => Y0 i ∨ i = w.heap.size ∨ i = w.heap.size + 1) hb1.size ?_ ?_ ?_ ?_ ?_ ?_ ?_).mono ?_
    · intro i hi
      obtain ⟨q1, q2⟩ := hZ i hi
      exact ⟨q1, hb1.block i q1, fun c => by rcases c with c | c | c; exact q2 c; omega; omega⟩
    · rintro s Y' A ⟨Y, hY, hi, -, -, hl, hk⟩ i qi
      rcases (hY i).1 qi with c | c | c
      · exact hlt _ _ _ hi i c
      · rw [c]; exact (Array.getElem?_eq_some_iff.1 hk).1
      · rw [c]; exact (Array.getElem?_eq_some_iff.1 hl).1
    · rintro s Y' Z A C ⟨Y, hY, hi, n1, n2, hl, hk⟩ ht hd
      exact ⟨Y, hY, hI _ _ _ _ _ hi ht (fun i q => hd i ((hY i).2 (Or.inl q))), n1, n2, (ht.block _ (Array.getElem?_eq_some_iff.1 hl).1 (hd _ ((hY _).2 (Or.inr (Or.inr rfl))))).trans hl, (ht.block _ (Array.getElem?_eq_some_iff.1 hk).1 (hd _ ((hY _).2 (Or.inr (Or.inl rfl))))).trans hk⟩
    · rintro s Y' Z A C ⟨Y, c, hY, hi, n1, n2, hl, hk⟩ ht hd
      exact ⟨Y, c, hY, hIx _ _ _ _ _ _ hi ht (fun i q => hd i ((hY i).2 (Or.inl q))), n1, n2, (ht.block _ (Array.getElem?_eq_some_iff.1 hl).1 (hd _ ((hY _).2 (Or.inr (Or.inr rfl))))).trans hl, (ht.block _ (Array.getElem?_eq_some_iff.1 hk).1 (hd _ ((hY _).2 (Or.inr (Or.inl rfl))))).trans hk⟩
    · rintro s Y' A ⟨Y, hY, hi, -⟩
      exact hHd _ _ _ hi
    · -- one round
      rintro pre x rest Y' W hLe ⟨Y, hY, hi, n1, n2, hl, hk⟩
      have hlW : w.heap.size + 1 < W.heap.size := (Array.getElem?_eq_some_iff.1 hl).1
      have hy := run_yield (P := P) (args := encs x) hl (by rw [hrec]; exact hps x)
      rw [hrec] at hy
      refine ⟨fn, _, assign, body, hy, roundIn_of_wpIn hfn ?_⟩
      refine wpIn_mono (hround (w.heap.size + 1) _ pre x rest Y W hLe hi rfl hlW n2) ?_
      rintro e a' W' hq
      cases e with
      | normal =>
        obtain ⟨hb, hq⟩ := hq
        have hl' : W'.heap[w.heap.size + 1]? = some (.loop (rec .ready none)) := (hb.block _ hlW).trans hl
        have hlW' : w.heap.size + 1 < W'.heap.size := Nat.lt_of_lt_of_le hlW hb.size
        refine ⟨_, run_beginRound hl' (by rw [hrec]), ?_⟩
        have ht1 := turn_putObj W' (w.heap.size + 1) (.loop { rec .ready none with state := .busy })
        have hI2 := hI _ _ _ _ _ (hI _ _ (fun _ => False) _ _ hi (turn_of_below _ hb) (fun _ _ q => q)) ht1 (fun i q c => n2 (c ▸ q))
        have hl2 : (W'.putObj (w.heap.size + 1) (.loop { rec .ready none with state := .busy })).heap[w.heap.size + 1]? = some (.loop { rec .ready none with state := .busy }) := World.putObj_heap_same hlW'
        refine wpIn_mono (hq _ ht1 hI2) ?_
        generalize W'.putObj (w.heap.size + 1) (.loop { rec .ready none with state := .busy }) = Wb at *
        have htb : Turn (fun i => i = w.heap.size + 1) W Wb := (turn_of_below _ hb).trans ht1 (fun _ _ q => q)
        have hk2 : Wb.heap[w.heap.size]? = some (.deferred (some [])) := (htb.block _ (by omega) (by omega)).trans hk
        -- behind the body
        have fin : ∀ (jump : Option Code) (W3 : World) (Y2 : Nat → Prop), Turn (fun i => Y i ∨ W.heap.size ≤ i) Wb W3 → (∀ i, i < W.heap.size → Y2 i → Y i) →
            (Instr.endRound (w.heap.size + 1) jump).run P W3 = .ok (.bool jump.isNone) (W3.putObj (w.heap.size + 1) (.loop (rec (if jump.isNone then .ready else .done) jump))) ∧
            (W3.putObj (w.heap.size + 1) (.loop (rec (if jump.isNone then .ready else .done) jump))).heap[w.heap.size + 1]? = some (.loop (rec (if jump.isNone then .ready else .done) jump)) ∧
            (W3.putObj (w.heap.size + 1) (.loop (rec (if jump.isNone then .ready else .done) jump))).heap[w.heap.size]? = some (.deferred (some [])) ∧
            Turn (fun i => i = w.heap.size + 1) W3 (W3.putObj (w.heap.size + 1) (.loop (rec (if jump.isNone then .ready else .done) jump))) ∧
            Turn Y' W (W3.putObj (w.heap.size + 1) (.loop (rec (if jump.isNone then .ready else .done) jump))) ∧ ¬ Y2 w.heap.size ∧ ¬ Y2 (w.heap.size + 1) := by
          intro jump W3 Y2 ht3 hY2
          have hl3 : W3.heap[w.heap.size + 1]? = some (.loop { rec .ready none with state := .busy }) := (ht3.block _ (Array.getElem?_eq_some_iff.1 hl2).1 (fun c => by rcases c with c | c; exact n2 c; omega)).trans hl2
          have hk3 : W3.heap[w.heap.size]? = some (.deferred (some [])) := (ht3.block _ (Array.getElem?_eq_some_iff.1 hk2).1 (fun c => by rcases c with c | c; exact n1 c; omega)).trans hk2
          have hr := run_endRound (P := P) jump hl3
          have ht4 := turn_putObj W3 (w.heap.size + 1) (.loop (rec (if jump.isNone then .ready else .done) jump))
          refine ⟨by rw [hrec] at hr ⊢; exact hr, World.putObj_heap_same (Array.getElem?_eq_some_iff.1 hl3).1, (World.putObj_heap_other (by omega)).trans hk3, ht4, ?_, fun c => n1 (hY2 _ (by omega) c), fun c => n2 (hY2 _ hlW c)⟩
          refine ((((Turn.refl Y' W).trans htb (fun i hi q => (hY i).2 (Or.inr (Or.inr q)))).trans ht3 (fun i hi q => ?_)).trans ht4 (fun i hi q => ?_))
          · rcases q with q | q
            · exact (hY i).2 (Or.inl q)
            · omega
          · exact (hY i).2 (Or.inr (Or.inr q))
        rintro e a3 W3 hp
        cases e with
        | normal =>
          obtain ⟨Y2, ht3, hY2, hi3⟩ := hp
          obtain ⟨hr, hl4, hk4, ht4, ht5, m1, m2⟩ := fin none W3 Y2 ht3 hY2
          exact ⟨_, _, hr, fun i => Y2 i ∨ i = w.heap.size ∨ i = w.heap.size + 1, ht5, fun i hi q => (hY i).2 (by rcases q with q | q; exact Or.inl (hY2 i hi q); exact Or.inr q), .inl ⟨rfl, Y2, fun _ => Iff.rfl, hI _ _ _ _ _ hi3 ht4 (fun i q c => m2 (c ▸ q)), m1, m2, hl4, hk4⟩⟩
        | ret =>
          obtain ⟨Y2, ht3, hY2, hi3⟩ := hp
          obtain ⟨hr, hl4, hk4, ht4, ht5, m1, m2⟩ := fin (some .ret) W3 Y2 ht3 hY2
          exact ⟨_, _, hr, fun i => Y2 i ∨ i = w.heap.size ∨ i = w.heap.size + 1, ht5, fun i hi q => (hY i).2 (by rcases q with q | q; exact Or.inl (hY2 i hi q); exact Or.inr q), .inr ⟨rfl, Y2, .ret, fun _ => Iff.rfl, hIx _ _ _ _ _ _ hi3 ht4 (fun i q c => m2 (c ▸ q)), m1, m2, hl4, hk4⟩⟩
        | exit id =>
          obtain ⟨Y2, ht3, hY2, hi3⟩ := hp
          obtain ⟨hr, hl4, hk4, ht4, ht5, m1, m2⟩ := fin (some (.exit id)) W3 Y2 ht3 hY2
          exact ⟨_, _, hr, fun i => Y2 i ∨ i = w.heap.size ∨ i = w.heap.size + 1, ht5, fun i hi q => (hY i).2 (by rcases q with q | q; exact Or.inl (hY2 i hi q); exact Or.inr q), .inr ⟨rfl, Y2, .exit id, fun _ => Iff.rfl, hIx _ _ _ _ _ _ hi3 ht4 (fun i q c => m2 (c ▸ q)), m1, m2, hl4, hk4⟩⟩
        | goto t =>
          obtain ⟨Y2, ht3, hY2, hi3⟩ := hp
          obtain ⟨hr, hl4, hk4, ht4, ht5, m1, m2⟩ := fin (some (.goto t)) W3 Y2 ht3 hY2
          exact ⟨_, _, hr, fun i => Y2 i ∨ i = w.heap.size ∨ i = w.heap.size + 1, ht5, fun i hi q => (hY i).2 (by rcases q with q | q; exact Or.inl (hY2 i hi q); exact Or.inr q), .inr ⟨rfl, Y2, .goto t, fun _ => Iff.rfl, hIx _ _ _ _ _ _ hi3 ht4 (fun i q c => m2 (c ▸ q)), m1, m2, hl4, hk4⟩⟩
        | panic ch => exact hp.elim
        | outgrown => exact hp.elim
      | ret => exact hq.elim
      | exit id => exact hq.elim
      | goto t => exact hq.elim
      | panic ch => exact hq.elim
      | outgrown => exact hq.elim
    · exact ⟨Y0, fun _ => Iff.rfl, hI1, fun c => by have := hY0 _ c; omega, fun c => by have := hY0 _ c; omega, hL1, hK1⟩
    · -- behind the iterator
      rintro e W2 ⟨⟨v, rfl⟩, Y2, hs2, ht2, (⟨Y, hY, hi, n1, n2, hl, hk⟩ | ⟨pre, hpre, Y, c, hY, hi, n1, n2, hl, hk⟩)⟩
      all_goals
        have ht : Turn (fun i => Y0 i ∨ Z0 i) w W2 := (turn_of_below _ hb1).trans ht2 (fun i hi q => by
          rcases q with (q | q | q) | q
          · exact Or.inl q
          · omega
          · omega
          · exact Or.inr q)
        have hYs : ∀ i, i < w.heap.size → Y i → Y0 i := fun i hi q => by
          rcases hs2 i (by omega) ((hY i).2 (Or.inl q)) with c | c | c
          · exact c
          · omega
          · omega
        have ht3 := turn_putObj W2 (w.heap.size + 1)
        have htt : ∀ o, Turn (fun i => Y0 i ∨ Z0 i) w (W2.putObj (w.heap.size + 1) o) := fun o => ht.trans (ht3 o) (fun i hi (q : i = _) => by omega)
      · exact ⟨none, _, by have := run_endLoop (P := P) hl (by rw [hrec]; simp); rw [hrec] at this; exact this, hdone _ Y _ (Nat.le_refl _) (hI _ _ _ _ _ hi (ht3 _) (fun i q c => n2 (c ▸ q))) n1 hYs (htt _) ((World.putObj_heap_other (by omega)).trans hk)⟩
      · exact ⟨some c, _, by have := run_endLoop (P := P) hl (by rw [hrec]; simp); rw [hrec] at this; exact this, hstop _ c pre Y _ (Nat.le_refl _) hpre (hIx _ _ _ _ _ _ hi (ht3 _) (fun i q c => n2 (c ▸ q))) n1 hYs (htt _) ((World.putObj_heap_other (by omega)).trans hk)⟩
end TE
end Go.Proofs.YtcmndefjmhcbhaaDoor
