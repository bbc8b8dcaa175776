/- The walks of package walk, fifth part: Trace. -/
import Derived.Test.YtndjhedoandinaaGreatDoorWalkE
namespace Go.Proofs.YtndjhedoandinaaGreatDoor
open Go.RowKit Go.Maps

theorem own_psl {T : TypeId} {w : World} {base : Nat} {v : Value} {L : WL} (h : w.ownsRow base T 2 v L.length (pcs L)) : Psl w (fun g => base ≤ g) v L := by
  rcases h.2 with ⟨rfl, hz⟩ | ⟨g, cap, cur, rfl, hbase, hb, r1, r2, r3, r4⟩
  · exact Or.inl ⟨rfl, List.eq_nil_of_length_eq_zero hz⟩
  · refine Or.inr ⟨g, cap, rfl, hbase, (Array.getElem?_eq_some_iff.1 hb).1, fun j hj => ?_⟩
    have hg : ∀ i, i < L.length * 2 → w.cell? ⟨g, i, none⟩ = (pcs L)[i]? := fun i hi => by
      have h5 : (cur.toList.take (L.length * 2))[i]? = (pcs L)[i]? := by rw [r4]
      rw [List.getElem?_take_of_lt (by omega)] at h5
      simp only [World.cell?, hb]
      simp only [Option.isSome_none, Bool.false_eq_true, if_false]
      rw [← Array.getElem?_toList, h5]
    exact ⟨(hg _ (by omega)).trans (pcs_get L hj).1, (hg _ (by omega)).trans (pcs_get L hj).2⟩

theorem info_st : (Tryz.prog.info? 81).map (fun i => (i.zero, i.size, i.bytes)) = some (some (.agg #[.int .u64 0, .int .u64 0]), 2, 16) := by kernel_rfl

/-- Words appended to a slice of words of the call's own: of whatever pair type. -/
theorem wpList_appS (w : World) {ops : Array Oper} {rest : List Oper} {o : Oper} {a : Act} {Q : Exit → Act → World → Prop} (hg : o.guard = none) (s x : Operand) (hop : o.op = .call { callee := .builtin .append, args := #[s, x], argTypes := #[22, 22] })
    (base : Nat) (v : Value) (hs : a.eval s = v) (hown : w.ownsRow base 81 2 v 0 []) (L : WL) (bb cap0 : Nat) (hx : a.eval x = .slice (some ⟨bb, 0, none⟩) L.length cap0) (hc : ∀ j u, (pcs L)[j]? = some u → w.cell? ⟨bb, j, none⟩ = some u) (hp : 0 < L.length) (hlen : L.length < 100000000) (hbase : base ≤ w.heap.size)
    (h : ∀ g cap w', w'.ownsRow base 81 2 (.slice (some ⟨g, 0, none⟩) L.length cap) L.length (pcs L) → w.grownBy w' v.ownBlock → wpList Tryz.prog ops Q rest (a.put o.dst (.slice (some ⟨g, 0, none⟩) L.length cap)) w') :
    wpList Tryz.prog ops Q (o :: rest) a w := by
  obtain ⟨i0, hi, hz0, hz1, hz2⟩ := info_parts info_st
  refine wpList_append_lies w hg s x 22 hop base 81 i0 _ 2 16 Tryz.underlying22 hi hz0 hz1 hz2 rfl (by decide) v 0 [] hs hown ⟨bb, 0, none⟩ L.length cap0 (pcs L) hx (by rw [pcs_len]; omega) (fun j u hu => by rw [Addr.add_mid, Nat.zero_add]; exact hc j u hu) (pcs_one L) hp (by unfold maxLen; omega) (by omega) hbase _ rfl ?_
  intro g cap w' hown' hgrow _ _
  rw [Nat.zero_add] at hown' ⊢
  exact h g cap w' hown' hgrow

set_option maxHeartbeats 1000000 in
set_option maxRecDepth 100000 in
theorem clone_c {w : World} (L : WL) (b cap : Nat) (hc : ∀ j u, (pcs L)[j]? = some u → w.cell? ⟨b, j, none⟩ = some u) (hl : L.length ≤ 4) :
    Calls Tryz.prog 124 #[.slice (some ⟨b, 0, none⟩) L.length cap] w fun e w' => ∃ v, e = .returned v ∧ Psl w' (fun g => w.heap.size ≤ g) v L ∧ Below w.heap.size w w' := by
  have HC := Hid.mk hc
  have hen : ∀ (w : World) (n : Nat), (binOp .eql 22 (.slice (some ⟨b, 0, none⟩) n cap) (.slice none 0 0)).run Tryz.prog w = .ok (.bool false) w := fun _ _ => rfl
  have HP : Hid (L.length = 0 → L = []) := fun h => List.length_eq_zero_iff.1 h
  generalize hN : L.length = N at *
  have HN := Hid.mk hN
  clear hc hN
  by_cases h0 : N = 0
  · subst h0
    go_enter Tryz.func124, Tryz.ntmps124
    go_wp2
    go_ret
    obtain rfl : L = [] := HP.out (by trivial)
    exact ⟨_, rfl, Or.inr ⟨w.heap.size, 0, rfl, Nat.le_refl _, by simp, fun j hj => by cases hj⟩, below_new _ _⟩
  · have hN := HN.out
    subst hN
    go_enter Tryz.func124, Tryz.ntmps124
    go_wp2_with (at_builtin; refine wpList_appS _ rfl _ _ rfl w.heap.size _ rfl ⟨rfl, Or.inr ⟨w.heap.size, 0, #[], rfl, Nat.le_refl _, heap_alloc_new _ _, Nat.le_refl _, Nat.zero_le _, rfl, rfl⟩⟩ L b cap rfl (fun j u hu => cell_later (below_new _ _) (HC.out j u hu)) (by omega) (by omega) (by simp) ?_; intro g cap' w2 hown hgr)
    go_ret
    refine ⟨_, rfl, own_psl hown, ?_⟩
    exact (below_new w _).grown hgr (by simp) (fun q hq => by cases hq; exact Nat.le_refl _)

set_option maxHeartbeats 1000000 in
theorem trace_any (l : Int) (tb va : Nat) (htl : tb < 18446744073709551616) {w : World} {X : Nat → Prop} {a S n : Nat} {f : Nat → Nat} (hM : MemAt w X a S n f) (hF : Flds w) :
    Calls Tryz.prog 89 #[.pointer (some ⟨a, 0, none⟩), .int .i64 l, .int .u64 tb, .int .u64 va] w fun e w' => ∃ v, e = .returned v ∧ Psl w' (fun g => w.heap.size ≤ g) v (wk0 S f l tb va).1 ∧ Below w.heap.size w w' := by
  have hC := fun w1 (hm : MemAt w1 X a S n f) (hf : Flds w1) => follow_any l tb va htl hm hf
  have hL4 := wk0_len S f l tb va
  generalize wk0 S f l tb va = r at *
  unfold wayR at hC
  have hWl := wayL_len r.1 r.1.length (leafL r.2) (faultL r.2) hL4 (leafL_len _) (faultL_len _)
  have hW1 := wayL_one r.1 r.1.length (leafL r.2) (faultL r.2) (fun v hv => (Array.all_eq_true_iff_forall_mem.1 (leafL_one r.2)) v (by simpa using hv)) (fun v hv => (Array.all_eq_true_iff_forall_mem.1 (faultL_one r.2)) v (by simpa using hv))
  have hWn := wayL_n r.1 r.1.length (leafL r.2) (faultL r.2) hL4
  have hWp : ∀ j u, (pcs r.1)[j]? = some u → (wayL r.1 r.1.length (leafL r.2) (faultL r.2))[j]? = some u := fun j u hu => by
    unfold wayL
    rw [List.getElem?_append_left (List.getElem?_eq_some_iff.1 hu).1]; exact hu
  generalize wayL r.1 r.1.length (leafL r.2) (faultL r.2) = W at *
  have hWs : W.toArray.size = 19 := (List.size_toArray ..).trans hWl
  have hWg : segA (wayL [] 0 zL zF).toArray 0 W.toArray.toList = W.toArray := segA_whole _ _ (by rw [List.toList_toArray, hWl]; rfl)
  have HWp := Hid.mk hWp
  obtain ⟨L, r2⟩ := r
  simp only at *
  clear hWp
  have hN4 : (L.length : Int) ≤ 4 := by omega
  go_enter Tryz.func89, Tryz.ntmps89
  go_wp2_with fail
  refine (hC _ hM hF).mono ?_
  rintro e w1 ⟨rfl, hB⟩
  clear hC hM hF
  go_wp2_with (first
    | (refine wpList_store_seg rfl 193 _ _ rfl w1.heap.size 0 _ W.toArray rfl rfl rfl 193 (wayL [] 0 zL zF).toArray (heap_alloc_new _ _) (by rw [hWs]; exact Nat.le_refl 19) (by rw [hWs]; exact info_way) hW1 W.toArray hWg ?_
       intro w2 k10 ht
       have hB2 := below_turn (below_tr hB (below_new _ _)) ht hB.size
       have c8 := (cell_of_row w2 w1.heap.size 8 _ _ _ k10).trans ((List.getElem?_toArray ..).trans hWn)
       clear ht hB)
    | fail)
  refine (clone_c L w1.heap.size _ (fun j u hu => by rw [cell_of_row _ _ _ _ _ _ k10, List.getElem?_toArray]; exact HWp.out j u hu) (by omega)).mono ?_
  rintro e w3 ⟨v, rfl, hp, hb⟩
  go_wp2
  go_ret
  exact ⟨_, rfl, hp.mono (fun g hg => Nat.le_trans hB2.size hg), below_tr hB2 hb⟩
end Go.Proofs.YtndjhedoandinaaGreatDoor
