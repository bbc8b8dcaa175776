/- Rows of entries, second part: appending; the walks of Clone and IndexFunc. -/
import Derived.Test.YtdpcbdbdacjcbaaDoorTrB
namespace Go.Proofs.YtdpcbdbdacjcbaaDoor.TR
open Go.RowKit

theorem infoP {P : Program} {t : TypeId} {z : Option Value} {s b : Nat} (h : (P.info? t).map (fun i => (i.zero, i.size, i.bytes)) = some (z, s, b)) : ∃ i, P.info? t = some i ∧ i.zero = z ∧ i.size = s ∧ i.bytes = b := by
  cases hq : P.info? t with
  | none => rw [hq] at h; cases h
  | some i =>
    rw [hq] at h
    simp only [Option.map_some, Option.some.injEq, Prod.mk.injEq] at h
    exact ⟨i, rfl, h.1, h.2.1, h.2.2⟩
/-- What is asked of a slice type and its elements: entries of the program's, or of the document's. -/
structure ETy (tS tE : TypeId) : Prop where
  sl : Tryd.prog.underlying tS = some (.slice tE)
  info : (Tryd.prog.info? tE).map (fun i => (i.zero, i.size, i.bytes)) = some (some e0.v, 4, 32)
theorem etyT : ETy 37 31 := ⟨Tryd.underlying37, by kernel_rfl⟩

section
variable {ops : Array Oper} {rest : List Oper} {o : Oper} {a : Act} {Q : Exit → Act → World → Prop}
/-- Entries appended to a row of the call's own. -/
theorem wpList_appE {tS tE : TypeId} (hT : ETy tS tE) (w : World) (hg : o.guard = none) (s x : Operand) (hop : o.op = .call { callee := .builtin .append, args := #[s, x], argTypes := #[tS, tS] })
    (base : Nat) (v : Value) (l : List En) (hs : a.eval s = v) (hown : w.ownsRow base tE 4 v l.length (ecs l)) (m : List En) (ad : Addr) (c : Nat) (hx : a.eval x = .slice (some ad) m.length c) (hc : ∀ j u, (ecs m)[j]? = some u → w.cell? (ad.add j) = some u) (hp : 0 < m.length) (hlen : l.length + m.length ≤ 100000) (hbase : base ≤ w.heap.size) (H : Nat) (hH : w.heap.size = H)
    (h : ∀ g cap w', w'.ownsRow base tE 4 (.slice (some ⟨g, 0, none⟩) (l.length + m.length) cap) (l ++ m).length (ecs (l ++ m)) → w.grownBy w' v.ownBlock → (v.ownBlock = some g ∨ g = H) → g < w'.heap.size → wpList Tryd.prog ops Q rest (a.put o.dst (.slice (some ⟨g, 0, none⟩) (l.length + m.length) cap)) w') :
    wpList Tryd.prog ops Q (o :: rest) a w := by
  obtain ⟨i0, hi, hz0, hz1, hz2⟩ := infoP hT.info
  refine wpList_append_lies w hg s x tS hop base tE i0 _ 4 32 hT.sl hi hz0 hz1 hz2 rfl (by decide) v l.length (ecs l) hs hown ad m.length c (ecs m) hx (ecs_len m) hc (ecs_one m) hp (by unfold maxLen; omega) (by omega) hbase H hH ?_
  intro g cap w' hown' hgrow hat hlt
  rw [← ecs_app] at hown'
  exact h g cap w' (by rw [List.length_append]; exact hown') hgrow hat hlt
theorem step_appE {K : Act → World → Prop} {E : Prop} {tS tE : TypeId} (hT : ETy tS tE) (w : World) (hg : o.guard = none) (s x : Operand) (hop : o.op = .call { callee := .builtin .append, args := #[s, x], argTypes := #[tS, tS] })
    (base : Nat) (v : Value) (l : List En) (hs : a.eval s = v) (hown : w.ownsRow base tE 4 v l.length (ecs l)) (m : List En) (ad : Addr) (c : Nat) (hx : a.eval x = .slice (some ad) m.length c) (hc : ∀ j u, (ecs m)[j]? = some u → w.cell? (ad.add j) = some u) (hp : 0 < m.length) (hlen : l.length + m.length ≤ 100000) (hbase : base ≤ w.heap.size) (H : Nat) (hH : w.heap.size = H)
    (h : ∀ g cap w', w'.ownsRow base tE 4 (.slice (some ⟨g, 0, none⟩) (l.length + m.length) cap) (l ++ m).length (ecs (l ++ m)) → w.grownBy w' v.ownBlock → (v.ownBlock = some g ∨ g = H) → g < w'.heap.size → K (a.put o.dst (.slice (some ⟨g, 0, none⟩) (l.length + m.length) cap)) w') :
    if Region.wanted o (yielded ops a.tmps) = true then Oper.wp Tryd.prog o a w K Q else E := by
  obtain ⟨i0, hi, hz0, hz1, hz2⟩ := infoP hT.info
  refine step_append_lies w hg s x tS hop base tE i0 _ 4 32 hT.sl hi hz0 hz1 hz2 rfl (by decide) v l.length (ecs l) hs hown ad m.length c (ecs m) hx (ecs_len m) hc (ecs_one m) hp (by unfold maxLen; omega) (by omega) hbase H hH ?_
  intro g cap w' hown' hgrow hat hlt
  rw [← ecs_app] at hown'
  exact h g cap w' (by rw [List.length_append]; exact hown') hgrow hat hlt
end

/-- A new row, empty. -/
theorem own_new (w : World) (tE : TypeId) : (w.alloc (.cells #[] tE)).ownsRow w.heap.size tE 4 (.slice (some ⟨w.heap.size, 0, none⟩) 0 0) ([] : List En).length (ecs []) :=
  ⟨rfl, Or.inr ⟨w.heap.size, 0, #[], rfl, Nat.le_refl _, heap_alloc_new _ _, Nat.le_refl _, Nat.zero_le _, rfl, rfl⟩⟩

set_option maxHeartbeats 1000000 in
set_option maxRecDepth 100000 in
theorem clone_c (l : List En) (ad : Option Addr) (cap : Nat) (hf : ad = none ∨ ∃ g o, ad = some ⟨g, o, none⟩) (hn : l.length ≤ 1000) (w : World) (hr : RdA w ad l) :
    Calls Tryd.prog 28 #[.slice ad l.length cap] w fun r w' => ∃ ad' cap', r = .returned (.slice ad' l.length cap') ∧ RdA w' ad' l ∧ (∀ b, ad' = some b → w.heap.size ≤ b.block) ∧ Below w.heap.size w w' := by
  have HR := Hid.mk hr
  clear hr
  rcases hf with rfl | ⟨b, o, rfl⟩
  · have h0 : l.length = 0 := by
      rcases Nat.eq_zero_or_pos l.length with h | h
      · exact h
      · obtain ⟨g, o, e, -⟩ := HR.out 0 h; cases e
    obtain rfl := List.length_eq_zero_iff.1 h0
    have hen : ∀ (w : World) (n c : Nat), (binOp .eql 37 (.slice none n c) (.slice none 0 0)).run Tryd.prog w = .ok (.bool true) w := fun _ _ _ => rfl
    go_enter Tryd.func28, Tryd.ntmps28
    go_wp2
    go_ret
    exact ⟨_, _, rfl, RdA.nil _ _, (fun b hb => by cases hb), Below.refl _ _⟩
  · have hen : ∀ (w : World) (n : Nat), (binOp .eql 37 (.slice (some ⟨b, o, none⟩) n cap) (.slice none 0 0)).run Tryd.prog w = .ok (.bool false) w := fun _ _ => rfl
    by_cases h0 : l.length = 0
    · obtain rfl := List.length_eq_zero_iff.1 h0
      go_enter Tryd.func28, Tryd.ntmps28
      go_wp2
      go_ret
      exact ⟨_, _, rfl, RdA.nil _ _, (fun b hb => by cases hb; exact Nat.le_refl _), below_new _ _⟩
    · have hB := fun w' (hgr : World.grownBy (w.alloc (.cells #[] 31)) w' (Value.slice (some ⟨w.heap.size, 0, none⟩) 0 0).ownBlock) => (below_new w (.cells #[] 31)).grown hgr (by simp) (fun q hq => by cases hq; exact Nat.le_refl _)
      go_enter Tryd.func28, Tryd.ntmps28
      go_wp2_with (at_builtin; refine wpList_appE etyT _ rfl _ _ rfl w.heap.size _ [] rfl (own_new w _) l ⟨b, o, none⟩ cap rfl (fun j u hu => cell_later (below_new _ _) (HR.out.cells j u hu)) (by omega) (by simp; omega) (by simp) _ rfl ?_; intro g cap' w2 hown hgr hat hlt; have HO := Hid.mk hown; clear hown)
      go_ret
      obtain ⟨ad', c', e, h1, h2⟩ := own_rd HO.out
      simp only [List.nil_append, List.length_nil, Nat.zero_add] at e h1
      cases e
      exact ⟨_, _, rfl, h1, fun b hb => (h2 b hb).1, hB _ hgr⟩

end Go.Proofs.YtdpcbdbdacjcbaaDoor.TR
