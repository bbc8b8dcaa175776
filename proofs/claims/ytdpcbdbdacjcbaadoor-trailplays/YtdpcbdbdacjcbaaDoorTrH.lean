/- Buffers: what one holds in memory; the walks of New, List, Drop. -/
import Derived.Test.YtdpcbdbdacjcbaaDoorTrG
namespace Go.Proofs.YtdpcbdbdacjcbaaDoor.TR
open Go.RowKit

/-- A buffer at the block t, its row the value v; X: the blocks that are its own. -/
structure BufV (w : World) (X : Nat → Prop) (t : Nat) (most : Int) (v : Value) (l : List En) : Prop where
  row : w.heap[t]? = some (.cells #[.int .i64 most, v] 66 (0, 0))
  own : w.ownsRow 0 31 4 v l.length (ecs l)
  xg : ∀ g, v.ownBlock = some g → X g ∧ g ≠ t
  xt : X t
  lt : ∀ i, X i → i < w.heap.size
  ok : ∀ e ∈ l, e.okR
def Buf (w : World) (X : Nat → Prop) (t : Nat) (most : Int) (l : List En) : Prop := ∃ v, BufV w X t most v l
theorem own_keep {w w' : World} {b : Nat} {T : TypeId} {v : Value} {n : Nat} {xs : List Value} (h : w.ownsRow b T 4 v n xs) (hb : ∀ g, v.ownBlock = some g → w'.heap[g]? = w.heap[g]?) : w'.ownsRow b T 4 v n xs := by
  refine ⟨h.1, ?_⟩
  rcases h.2 with hn | ⟨g, cap, cur, rfl, h1, hg, r⟩
  · exact Or.inl hn
  · exact Or.inr ⟨g, cap, cur, rfl, h1, (hb g rfl).trans hg, r⟩
theorem BufV.kept {w w' : World} {X : Nat → Prop} {t : Nat} {most : Int} {v : Value} {l : List En} (h : BufV w X t most v l) (hb : ∀ i, X i → w'.heap[i]? = w.heap[i]?) (hs : w.heap.size ≤ w'.heap.size) : BufV w' X t most v l :=
  ⟨(hb t h.xt).trans h.row, own_keep h.own (fun g hg => hb g (h.xg g hg).1), h.xg, h.xt, fun i hi => Nat.lt_of_lt_of_le (h.lt i hi) hs, h.ok⟩
theorem BufV.later {w w' : World} {X : Nat → Prop} {t : Nat} {most : Int} {v : Value} {l : List En} (h : BufV w X t most v l) (hb : Below w.heap.size w w') : BufV w' X t most v l :=
  h.kept (fun i hi => hb.block i (h.lt i hi)) hb.size
theorem Buf.later {w w' : World} {X : Nat → Prop} {t : Nat} {most : Int} {l : List En} (h : Buf w X t most l) (hb : Below w.heap.size w w') : Buf w' X t most l := by
  obtain ⟨v, h⟩ := h
  exact ⟨v, h.later hb⟩
/-- Its row, opened. -/
theorem BufV.form {w : World} {X : Nat → Prop} {t : Nat} {most : Int} {v : Value} {l : List En} (h : BufV w X t most v l) : ∃ ad cap, v = .slice ad l.length cap ∧ (ad = none ∨ ∃ g o, ad = some ⟨g, o, none⟩) ∧ RdA w ad l := by
  obtain ⟨ad, cap, rfl, hr, -⟩ := own_rd h.own
  refine ⟨ad, cap, rfl, ?_, hr⟩
  rcases h.own.2 with ⟨e, -⟩ | ⟨g, c, cur, e, -⟩
  · simp only [Value.slice.injEq] at e; exact Or.inl e.1
  · simp only [Value.slice.injEq] at e; exact Or.inr ⟨g, 0, e.1⟩
theorem row2c {w : World} {K : Nat} {a b : Value} {T : TypeId} (h : w.heap[K]? = some (.cells #[a, b] T (0, 0))) : w.cell? ⟨K, 0, none⟩ = some a ∧ w.cell? ⟨K, 1, none⟩ = some b :=
  ⟨(cell_of_row _ _ _ _ _ _ h).trans rfl, (cell_of_row _ _ _ _ _ _ h).trans rfl⟩

set_option maxHeartbeats 1000000 in
theorem new_bad (m : Int) (h : m < 1 ∨ 64 < m) (w : World) :
    Calls Tryd.prog 7 #[.int .i64 m] w fun r w' => r = .returned (.tuple #[.pointer none, .int .i64 12]) ∧ w = w' := by
  by_cases h1 : m < 1
  · have d1 : decide (m < 1) = true := decide_eq_true h1
    go_enter Tryd.func7, Tryd.ntmps7
    go_wp2
    go_ret2
    exact ⟨rfl, rfl⟩
  · have h2 : 64 < m := by omega
    have d1 : decide (m < 1) = false := decide_eq_false h1
    have d2 : decide (64 < m) = true := decide_eq_true h2
    go_enter Tryd.func7, Tryd.ntmps7
    go_wp2
    go_ret2
    exact ⟨rfl, rfl⟩
set_option maxHeartbeats 1000000 in
theorem new_ok (m : Int) (h1 : 1 ≤ m) (h2 : m ≤ 64) (w : World) :
    Calls Tryd.prog 7 #[.int .i64 m] w fun r w' => r = .returned (.tuple #[.pointer (some ⟨w.heap.size, 0, none⟩), .int .i64 0]) ∧ Below w.heap.size w w' ∧ Buf w' (fun i => i = w.heap.size) w.heap.size m [] := by
  have d1 : decide (m < 1) = false := decide_eq_false (by omega)
  have d2 : decide (64 < m) = false := decide_eq_false (by omega)
  have HB : Hid (Buf (w.alloc (.cells #[.int .i64 m, .slice none 0 0] 66)) (fun i => i = w.heap.size) w.heap.size m []) :=
    ⟨_, heap_alloc_new _ _, World.ownsRow_nil _ _ _ _, (fun g hg => by cases hg), rfl, (fun i hi => by rw [hi]; simp), (fun e he => by cases he)⟩
  go_enter Tryd.func7, Tryd.ntmps7
  go_wp2
  go_ret2
  exact ⟨rfl, below_new _ _, HB.out⟩

set_option maxHeartbeats 1000000 in
theorem list_c {w : World} {X : Nat → Prop} {t : Nat} {most : Int} {l : List En} (h : Buf w X t most l) (hn : l.length ≤ 1000) :
    Calls Tryd.prog 9 #[.pointer (some ⟨t, 0, none⟩)] w fun r w' => ∃ ad cap, r = .returned (.slice ad l.length cap) ∧ RdA w' ad l ∧ (∀ b, ad = some b → w.heap.size ≤ b.block) ∧ Below w.heap.size w w' := by
  obtain ⟨v, h⟩ := h
  obtain ⟨ad, cap, rfl, hf, hr⟩ := h.form
  obtain ⟨-, c1⟩ := row2c h.row
  have hc := clone_c l ad cap hf hn w hr
  clear h hf hr
  go_enter Tryd.func9, Tryd.ntmps9
  go_wp2_with fail
  refine hc.mono ?_
  rintro e w1 ⟨ad', cap', rfl, hr, hb, hB⟩
  clear hc c1
  go_wp2
  go_ret
  exact ⟨_, _, rfl, hr, hb, hB⟩

theorem info_sl : (Tryd.prog.info? 37).map (·.size) = some 1 := by kernel_rfl
/-- Behind a change of its row in its own block, and a store of the new slice. -/
theorem BufV.turned {w w1 w2 : World} {X : Nat → Prop} {t : Nat} {most : Int} {v v' : Value} {l l' : List En} (h : BufV w X t most v l) (ht : Turn (OwnB v) w w1) (ho : w1.ownsRow 0 31 4 v' l'.length (ecs l')) (hv : v'.ownBlock = v.ownBlock) (hr : w2.heap[t]? = some (.cells #[.int .i64 most, v'] 66 (0, 0))) (h2 : Turn (fun i => i = t) w1 w2) (hok : ∀ e ∈ l', e.okR) :
    BufV w2 X t most v' l' ∧ Turn X w w2 := by
  have hx : ∀ g, v'.ownBlock = some g → X g ∧ g ≠ t := fun g hg => h.xg g (hv ▸ hg)
  refine ⟨⟨hr, own_keep ho (fun g hg => h2.block g ?_ (hx g hg).2), hx, h.xt, fun i hi => Nat.lt_of_lt_of_le (h.lt i hi) (Nat.le_trans ht.size h2.size), hok⟩, ?_⟩
  · exact (ho.lt g hg).2
  · refine Turn.trans (X := X) (Y := fun i => i = t) ⟨ht.os, ht.tape, ht.output, ht.size, fun i hi hX => ht.block i hi (fun h3 => hX (h.xg i h3).1)⟩ h2 (fun i _ hi => by rw [hi]; exact h.xt)

set_option maxHeartbeats 2000000 in
theorem drop_no {w : World} {X : Nat → Prop} {t : Nat} {most : Int} {l : List En} (h : Buf w X t most l) (n : Int) (hn : n < 0 ∨ (l.length : Int) ≤ n) (hl : l.length ≤ 1000) :
    Calls Tryd.prog 24 #[.pointer (some ⟨t, 0, none⟩), .int .i64 n] w fun r w' => r = .returned (.bool false) ∧ w = w' := by
  obtain ⟨v, h⟩ := h
  obtain ⟨ad, cap, rfl, hf, hr⟩ := h.form
  obtain ⟨-, c1⟩ := row2c h.row
  have hlI : (l.length : Int) ≤ 1000 := by omega
  clear h hf hr hl
  by_cases h1 : n < 0
  · have d1 : decide (n < 0) = true := decide_eq_true h1
    go_enter Tryd.func24, Tryd.ntmps24
    go_wp2
    go_ret
    exact ⟨rfl, rfl⟩
  · have d1 : decide (n < 0) = false := decide_eq_false h1
    have h2 : (l.length : Int) ≤ n := by omega
    have d2 : decide ((l.length : Int) ≤ n) = true := decide_eq_true h2
    go_enter Tryd.func24, Tryd.ntmps24
    go_wp2
    go_ret
    exact ⟨rfl, rfl⟩

set_option maxHeartbeats 2000000 in
theorem drop_yes {w : World} {X : Nat → Prop} {t : Nat} {most : Int} {l : List En} (h : Buf w X t most l) (n : Nat) (hn : n < l.length) (hl : l.length ≤ 1000) :
    Calls Tryd.prog 24 #[.pointer (some ⟨t, 0, none⟩), .int .i64 (n : Nat)] w fun r w' => r = .returned (.bool true) ∧ Buf w' X t most (l.eraseIdx n) ∧ Turn X w w' := by
  obtain ⟨v, h⟩ := h
  obtain ⟨-, c1⟩ := row2c h.row
  have HH := Hid.mk h
  rcases h.own.2 with ⟨-, h0⟩ | ⟨g, cap, cur, rfl, hb, hg, h1, h2, h3, h4⟩
  · omega
  have hcur : cur = rowE l (cur.toList.drop (l.length * 4)) := by
    unfold rowE
    rw [← h4, List.take_append_drop]
  rw [hcur] at hg h3
  have hD := delete_row l n g cap 0 _ w hl hn h1 h2 hb hg h3
  have hlI : (l.length : Int) ≤ 1000 := by omega
  have hnI : (n : Int) < (l.length : Int) := by omega
  have d1 : decide ((n : Int) < 0) = false := decide_eq_false (by omega)
  have d2 : decide (l.length ≤ n) = false := decide_eq_false (by omega)
  have d2' : ¬ l.length ≤ n := by omega
  have HOK : Hid (∀ e ∈ l.eraseIdx n, e.okR) := fun e he => h.ok e (List.mem_of_mem_eraseIdx he)
  have hne := (h.xg g rfl).2
  clear h hg h1 h2 h3 h4 hcur hb hl hn
  go_enter Tryd.func24, Tryd.ntmps24
  go_wp2_with fail
  refine hD.mono ?_
  rintro e w1 ⟨rfl, ho, ht⟩
  have HR1 := Hid.mk (block_turn ht HH.out.row (fun h => hne h.symm))
  have HO := Hid.mk ho
  have HT := Hid.mk ht
  clear hD ho ht c1
  go_wp2_with (first
    | (refine wpList_store_segTo rfl 37 _ _ rfl rfl t 1 _ #[.slice (some ⟨g, 0, none⟩) (l.length - 1) cap] rfl rfl rfl 66 _ HR1.out (show 1 + 1 ≤ 2 by decide) info_sl (by simp [Value.oneCell']) #[.int .i64 most, .slice (some ⟨g, 0, none⟩) (l.length - 1) cap] rfl ?_
       intro w8 hk8 ht8)
    | fail)
  go_ret
  have hfin := HH.out.turned (v' := .slice (some ⟨g, 0, none⟩) (l.length - 1) cap) (Turn.mk HT.out.os HT.out.tape HT.out.output HT.out.size fun i hi hX => HT.out.block i hi fun h3 => hX (by rw [h3]; rfl)) HO.out rfl hk8 ht8 HOK.out
  exact ⟨rfl, ⟨_, hfin.1⟩, hfin.2⟩

end Go.Proofs.YtdpcbdbdacjcbaaDoor.TR
