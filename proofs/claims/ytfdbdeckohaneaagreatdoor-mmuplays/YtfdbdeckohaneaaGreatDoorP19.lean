/- P19 -/
import Derived.Deep.QuietTactic
import Derived.BigQuiet
import Derived.Deep.RegionLaw
import Derived.Test.YtfdbdeckohaneaaGreatDoorP18
set_option maxHeartbeats 16000000
set_option maxRecDepth 100000
namespace Go.Proofs.YtfdbdeckohaneaaGreatDoor.TB
open Go.RowKit
theorem qav {w0 w : World} (h : Below w0.heap.size w0 w) : ∀ n, Below w0.heap.size w0 (w.drewN n)
 | 0 => h
 | n + 1 => (qav h n).drew
theorem index_c (l : List En) (e : En) (ad : Option Addr) (cap : Nat) (w : World) (hn : l.length ≤ 1000) (hr : RdA w ad l) :
  Calls Tryz.prog 147 #[.slice ad l.length cap, e.v] w fun r w' => (∃ z : Int, r = .returned (.int .i64 z) ∧ (0 ≤ z ↔ e ∈ l)) ∧ Below w.heap.size w w' := by
 have HR := Hid.mk hr
 have heq := fun y w1 => eqT e y w1
 have HE := Hid.mk (rfl : e = e)
 have hnI : (l.length : Int) ≤ 1000 := by omega
 obtain ⟨f, hf⟩ : ∃ f : En, f = e := ⟨_, rfl⟩
 rw [← hf] at heq ⊢
 have HF := Hid.mk hf
 clear hr hn hf HE
 obtain ⟨a0, a1, a2, a3, a4, a5, a6, a7, a8, a9⟩ := f
 simp only [En.v] at *
 go_enter Tryz.func147, Tryz.ntmps147
 go_wp2
 go_loopw [5, 8] (fun _ s8 wr => ∃ i : Nat, i ≤ l.length ∧ s8 = .int .i64 i ∧ Below w.heap.size w wr ∧ wr.heap[w.heap.size]? = some (.cells #[.int .i64 a0, .int .u64 a1, .int .i64 a2, .int .i64 a3, .int .u64 a4, .bool a5, .bool a6, .bool a7, .bool a8, .int .i64 a9] 91 (0, 0)) ∧ ∀ j, j < i → (gE l j) ≠ e) (fun _ s8 _ => l.length - (RowKit.intOf s8).toNat)
 case atStart => exact ⟨0, by omega, rfl, qac _ _, heap_alloc_new _ _, fun j hj => absurd hj (Nat.not_lt_zero _)⟩
 case round =>
  obtain ⟨i, hi, rfl, hb, hK, hno⟩ := hrel
  have HB := Hid.mk hb
  have HK := Hid.mk hK
  have HNO := Hid.mk hno
  clear hno
  by_cases hlt : i < l.length
  ·have hlt2 : (i : Int) < l.length := by omega
   have HLT := Hid.mk hlt
   have hib : (i : Int) < 1000 := by omega
   obtain ⟨g, o, rfl, hg, hc⟩ := HR.out i hlt
   have d0 := cell_later hb (hc 0 _ rfl)
   have d1 := cell_later hb (hc 1 _ rfl)
   have d2 := cell_later hb (hc 2 _ rfl)
   have d3 := cell_later hb (hc 3 _ rfl)
   have d4 := cell_later hb (hc 4 _ rfl)
   have d5 := cell_later hb (hc 5 _ rfl)
   have d6 := cell_later hb (hc 6 _ rfl)
   have d7 := cell_later hb (hc 7 _ rfl)
   have d8 := cell_later hb (hc 8 _ rfl)
   have d9 := cell_later hb (hc 9 _ rfl)
   rw [Nat.add_zero] at d0
   have hq := heq (gE l i)
   have HY : Hid (eqB ⟨a0, a1, a2, a3, a4, a5, a6, a7, a8, a9⟩ (gE l i) = eqB (gE l i) e) := by
    show _ = _
    rw [HF.out]; exact eqB_comm _ _
   have HM : Hid ((gE l i) ∈ l) := by show _ ∈ _; rw [qbp l i hlt]; exact List.getElem_mem hlt
   clear hc hb hi heq hlt
   obtain ⟨q0, q1, q2, q3, q4, q5, q6, q7, q8, q9⟩ := qck hK
   clear hK
   rw [HY.out] at hq
   have HEY := Hid.mk (rfl : (gE l i) = (gE l i))
   by_cases hey : (gE l i) = e
   ·rw [qdn hey] at hq
    have HX : Hid (e ∈ l) := by show _ ∈ _; rw [← hey]; exact HM.out
    clear HY HM HEY hey
    generalize (gE l i) = y at *
    obtain ⟨b0, b1, b2, b3, b4, b5, b6, b7, b8, b9⟩ := y
    simp only at *
    go_wp2
    go_quiet (fail)
    go_wp2
    go_ret
    exact ⟨⟨_, rfl, fun _ => by rw [HF.out]; exact HX.out, fun _ => by omega⟩, qav HB.out _⟩
   ·rw [qdy hey] at hq
    have HX : Hid (∀ j, j < i + 1 → (gE l j) ≠ e) := fun j hj => by
     by_cases h : j = i
     ·subst h; exact hey
     ·exact HNO.out j (by omega)
    clear HY HM HEY hey
    generalize (gE l i) = y at *
    obtain ⟨b0, b1, b2, b3, b4, b5, b6, b7, b8, b9⟩ := y
    simp only at *
    go_wp2
    go_quiet (fail)
    go_wp2
    exact ⟨⟨i + 1, by have := HLT.out; omega, by go_num, qav HB.out _, qaa (qav (Below.refl _ _) _) HK.out, HX.out⟩, by have := HLT.out; simp [RowKit.intOf]; omega⟩
  ·have hlt2 : ¬ (i : Int) < l.length := by omega
   have HX : Hid (e ∉ l) := fun hm => by
    obtain ⟨j, hj, rfl⟩ := List.getElem_of_mem hm
    exact HNO.out j (by omega) (qbp l j hj)
   clear hb hK hi heq hlt
   go_wp2
   go_ret
   exact ⟨⟨_, rfl, fun h => absurd h (by omega), fun h => absurd (HF.out ▸ h) HX.out⟩, HB.out⟩
theorem contains_c (l : List En) (e : En) (ad : Option Addr) (cap : Nat) (w : World) (hn : l.length ≤ 1000) (hr : RdA w ad l) :
  Calls Tryz.prog 133 #[.slice ad l.length cap, e.v] w fun r w' => r = .returned (.bool (memB e l)) ∧ Below w.heap.size w w' := by
 have hc := fun w1 h1 => index_c l e ad cap w1 hn h1
 have HR := Hid.mk hr
 clear hr hn
 have HI : Hid (∀ z : Int, (0 ≤ z ↔ e ∈ l) → memB e l = decide (0 ≤ z)) := fun z hz => by rw [Bool.eq_iff_iff, qdj, decide_eq_true_eq]; exact hz.symm
 generalize memB e l = D at *
 obtain ⟨a0, a1, a2, a3, a4, a5, a6, a7, a8, a9⟩ := e
 simp only [En.v] at *
 generalize l.length = n at *
 go_enter Tryz.func133, Tryz.ntmps133
 go_wp2_with fail
 refine (hc _ (HR.out.later (qac _ _))).mono ?_
 rintro e w1 ⟨⟨z, rfl, hz⟩, hb⟩
 have HZ := Hid.mk (HI.out z hz)
 clear hz hc
 go_wp2
 all_goals go_ret
 all_goals exact ⟨by rw [HZ.out]; rfl, qab (qac _ _) hb⟩
theorem infoP {P : Program} {t : TypeId} {z : Option Value} {s b : Nat} (h : (P.info? t).map (fun i => (i.zero, i.size, i.bytes)) = some (z, s, b)) : ∃ i, P.info? t = some i ∧ i.zero = z ∧ i.size = s ∧ i.bytes = b := by
 cases hq : P.info? t with
 | none => rw [hq] at h; cases h
 | some i =>
  rw [hq] at h
  simp only [Option.map_some, Option.some.injEq, Prod.mk.injEq] at h
  exact ⟨i, rfl, h.1, h.2.1, h.2.2⟩
structure ETy (tS tE : TypeId) : Prop where
 sl : Tryz.prog.underlying tS = some (.slice tE)
 info : (Tryz.prog.info? tE).map (fun i => (i.zero, i.size, i.bytes)) = some (some e0.v, 10, 56)
theorem etyT : ETy 83 91 := ⟨Tryz.underlying83, by kernel_rfl⟩
section
variable {ops : Array Oper} {rest : List Oper} {o : Oper} {a : Act} {Q : Exit → Act → World → Prop}
theorem qbc {tS tE : TypeId} (hT : ETy tS tE) (w : World) (hg : o.guard = none) (s x : Operand) (hop : o.op = .call { callee := .builtin .append, args := #[s, x], argTypes := #[tS, tS] })
  (base : Nat) (v : Value) (l : List En) (hs : a.eval s = v) (hown : w.ownsRow base tE 10 v l.length (ecs l)) (m : List En) (ad : Addr) (c : Nat) (hx : a.eval x = .slice (some ad) m.length c) (hc : ∀ j u, (ecs m)[j]? = some u → w.cell? (ad.add j) = some u) (hp : 0 < m.length) (hlen : l.length + m.length ≤ 100000) (hbase : base ≤ w.heap.size) (H : Nat) (hH : w.heap.size = H)
  (h : ∀ g cap w', w'.ownsRow base tE 10 (.slice (some ⟨g, 0, none⟩) (l.length + m.length) cap) (l ++ m).length (ecs (l ++ m)) → w.grownBy w' v.ownBlock → (v.ownBlock = some g ∨ g = H) → g < w'.heap.size → wpList Tryz.prog ops Q rest (a.put o.dst (.slice (some ⟨g, 0, none⟩) (l.length + m.length) cap)) w') :
  wpList Tryz.prog ops Q (o :: rest) a w := by
 obtain ⟨i0, hi, hz0, hz1, hz2⟩ := infoP hT.info
 refine wpList_append_lies w hg s x tS hop base tE i0 _ 10 56 hT.sl hi hz0 hz1 hz2 rfl (by decide) v l.length (ecs l) hs hown ad m.length c (ecs m) hx (qau m) hc (qfg m) hp (by unfold maxLen; omega) (by omega) hbase H hH ?_
 intro g cap w' hown' hgrow hat hlt
 rw [← qed] at hown'
 exact h g cap w' (by rw [List.length_append]; exact hown') hgrow hat hlt
theorem step_appE {K : Act → World → Prop} {E : Prop} {tS tE : TypeId} (hT : ETy tS tE) (w : World) (hg : o.guard = none) (s x : Operand) (hop : o.op = .call { callee := .builtin .append, args := #[s, x], argTypes := #[tS, tS] })
  (base : Nat) (v : Value) (l : List En) (hs : a.eval s = v) (hown : w.ownsRow base tE 10 v l.length (ecs l)) (m : List En) (ad : Addr) (c : Nat) (hx : a.eval x = .slice (some ad) m.length c) (hc : ∀ j u, (ecs m)[j]? = some u → w.cell? (ad.add j) = some u) (hp : 0 < m.length) (hlen : l.length + m.length ≤ 100000) (hbase : base ≤ w.heap.size) (H : Nat) (hH : w.heap.size = H)
  (h : ∀ g cap w', w'.ownsRow base tE 10 (.slice (some ⟨g, 0, none⟩) (l.length + m.length) cap) (l ++ m).length (ecs (l ++ m)) → w.grownBy w' v.ownBlock → (v.ownBlock = some g ∨ g = H) → g < w'.heap.size → K (a.put o.dst (.slice (some ⟨g, 0, none⟩) (l.length + m.length) cap)) w') :
  if Region.wanted o (yielded ops a.tmps) = true then Oper.wp Tryz.prog o a w K Q else E := by
 obtain ⟨i0, hi, hz0, hz1, hz2⟩ := infoP hT.info
 refine step_append_lies w hg s x tS hop base tE i0 _ 10 56 hT.sl hi hz0 hz1 hz2 rfl (by decide) v l.length (ecs l) hs hown ad m.length c (ecs m) hx (qau m) hc (qfg m) hp (by unfold maxLen; omega) (by omega) hbase H hH ?_
 intro g cap w' hown' hgrow hat hlt
 rw [← qed] at hown'
 exact h g cap w' (by rw [List.length_append]; exact hown') hgrow hat hlt
end
theorem own_new (w : World) (tE : TypeId) : (w.alloc (.cells #[] tE)).ownsRow w.heap.size tE 10 (.slice (some ⟨w.heap.size, 0, none⟩) 0 0) ([] : List En).length (ecs []) :=
 ⟨rfl, Or.inr ⟨w.heap.size, 0, #[], rfl, Nat.le_refl _, heap_alloc_new _ _, Nat.le_refl _, Nat.zero_le _, rfl, rfl⟩⟩
theorem clone_c (l : List En) (ad : Option Addr) (cap : Nat) (hf : ad = none ∨ ∃ g o, ad = some ⟨g, o, none⟩) (hn : l.length ≤ 1000) (w : World) (hr : RdA w ad l) :
  Calls Tryz.prog 79 #[.slice ad l.length cap] w fun r w' => ∃ ad' cap', r = .returned (.slice ad' l.length cap') ∧ RdA w' ad' l ∧ (∀ b, ad' = some b → w.heap.size ≤ b.block) ∧ Below w.heap.size w w' := by
 have HR := Hid.mk hr
 clear hr
 rcases hf with rfl | ⟨b, o, rfl⟩
 ·have h0 : l.length = 0 := by
   rcases Nat.eq_zero_or_pos l.length with h | h
   ·exact h
   ·obtain ⟨g, o, e, -⟩ := HR.out 0 h; cases e
  obtain rfl := List.length_eq_zero_iff.1 h0
  have hen : ∀ (w : World) (n c : Nat), (binOp .eql 83 (.slice none n c) (.slice none 0 0)).run Tryz.prog w = .ok (.bool true) w := fun _ _ _ => rfl
  go_enter Tryz.func79, Tryz.ntmps79
  go_wp2
  go_ret
  exact ⟨_, _, rfl, RdA.nil _ _, (fun b hb => by cases hb), Below.refl _ _⟩
 ·have hen : ∀ (w : World) (n : Nat), (binOp .eql 83 (.slice (some ⟨b, o, none⟩) n cap) (.slice none 0 0)).run Tryz.prog w = .ok (.bool false) w := fun _ _ => rfl
  by_cases h0 : l.length = 0
  ·obtain rfl := List.length_eq_zero_iff.1 h0
   go_enter Tryz.func79, Tryz.ntmps79
   go_wp2
   go_ret
   exact ⟨_, _, rfl, RdA.nil _ _, (fun b hb => by cases hb; exact Nat.le_refl _), qac _ _⟩
  ·have hB := fun w' (hgr : World.grownBy (w.alloc (.cells #[] 91)) w' (Value.slice (some ⟨w.heap.size, 0, none⟩) 0 0).ownBlock) => (qac w (.cells #[] 91)).grown hgr (by simp) (fun q hq => by cases hq; exact Nat.le_refl _)
   go_enter Tryz.func79, Tryz.ntmps79
   go_wp2_with (at_builtin; refine qbc etyT _ rfl _ _ rfl w.heap.size _ [] rfl (own_new w _) l ⟨b, o, none⟩ cap rfl (fun j u hu => cell_later (qac _ _) (HR.out.cells j u hu)) (by omega) (by simp; omega) (by simp) _ rfl ?_; intro g cap' w2 hown hgr hat hlt; have HO := Hid.mk hown; clear hown)
   go_ret
   obtain ⟨ad', c', e, h1, h2⟩ := own_rd HO.out
   simp only [List.nil_append, List.length_nil, Nat.zero_add] at e h1
   cases e
   exact ⟨_, _, rfl, h1, fun b hb => (h2 b hb).1, hB _ hgr⟩
def NoP (p : En → Bool) (l : List En) (n : Nat) : Prop := ∀ j, j < n → p (gE l j) = false
def IsP (p : En → Bool) (l : List En) (k : Nat) : Prop := p (gE l k) = true
theorem qdw (q : Nat) (lb : Array Value) (eg : ∀ args w, (callFunc q args).run Tryz.prog w = .ok (.enter q args) w) (p : En → Bool) (l : List En) (ad : Option Addr) (cap : Nat) (w : World) (hn : l.length ≤ 1000) (hr : RdA w ad l)
  (hp : ∀ W e, Below w.heap.size w W → Calls Tryz.prog q (#[e.v] ++ lb) W fun r w' => r = .returned (.bool (p e)) ∧ Below W.heap.size W w') :
  Calls Tryz.prog 141 #[.slice ad l.length cap, .func (.func q) #[] lb] w fun r w' => ((r = .returned (.int .i64 (-1)) ∧ NoP p l l.length) ∨ ∃ k : Nat, k < l.length ∧ r = .returned (.int .i64 k) ∧ IsP p l k ∧ NoP p l k) ∧ Below w.heap.size w w' := by
 have HR := Hid.mk hr
 have HP := Hid.mk hp
 have hnI : (l.length : Int) ≤ 1000 := by omega
 clear hr hn hp
 go_enter Tryz.func141, Tryz.ntmps141
 go_wp2
 go_loopw [5, 8] (fun _ s8 wr => ∃ i : Nat, i ≤ l.length ∧ s8 = .int .i64 i ∧ Below w.heap.size w wr ∧ NoP p l i) (fun _ s8 _ => l.length - (RowKit.intOf s8).toNat)
 case atStart => exact ⟨0, by omega, rfl, Below.refl _ _, fun j hj => absurd hj (Nat.not_lt_zero _)⟩
 case round =>
  obtain ⟨i, hi, rfl, hb, hno⟩ := hrel
  have HB := Hid.mk hb
  have HNO := Hid.mk hno
  clear hno
  by_cases hlt : i < l.length
  ·have hlt2 : (i : Int) < l.length := by omega
   have HLT := Hid.mk hlt
   have hib : (i : Int) < 1000 := by omega
   obtain ⟨g, o, rfl, hg, hc⟩ := HR.out i hlt
   have d0 := cell_later hb (hc 0 _ rfl)
   have d1 := cell_later hb (hc 1 _ rfl)
   have d2 := cell_later hb (hc 2 _ rfl)
   have d3 := cell_later hb (hc 3 _ rfl)
   have d4 := cell_later hb (hc 4 _ rfl)
   have d5 := cell_later hb (hc 5 _ rfl)
   have d6 := cell_later hb (hc 6 _ rfl)
   have d7 := cell_later hb (hc 7 _ rfl)
   have d8 := cell_later hb (hc 8 _ rfl)
   have d9 := cell_later hb (hc 9 _ rfl)
   rw [Nat.add_zero] at d0
   have hcall := HP.out wr (gE l i) hb
   clear hc hb hi hlt
   cases hpy : p (gE l i)
   ·have HX : Hid (NoP p l (i + 1)) := fun j hj => by
     by_cases h : j = i
     ·subst h; exact hpy
     ·exact HNO.out j (by omega)
    rw [hpy] at hcall
    clear hpy
    generalize (gE l i) = y at *
    obtain ⟨b0, b1, b2, b3, b4, b5, b6, b7, b8, b9⟩ := y
    simp only [En.v] at *
    go_wp2_with fail
    refine hcall.mono ?_
    rintro e w' ⟨rfl, hb'⟩
    clear hcall
    go_wp2
    exact ⟨⟨i + 1, by have := HLT.out; omega, by go_num, qab HB.out hb', HX.out⟩, by have := HLT.out; simp [RowKit.intOf]; omega⟩
   ·have HX : Hid (p (gE l i) = true) := hpy
    rw [hpy] at hcall
    clear hpy
    have HY : Hid (∃ k : Nat, k < l.length ∧ k = i ∧ IsP p l k ∧ NoP p l k) := ⟨i, HLT.out, rfl, HX.out, HNO.out⟩
    generalize (gE l i) = y at *
    obtain ⟨b0, b1, b2, b3, b4, b5, b6, b7, b8, b9⟩ := y
    simp only [En.v] at *
    go_wp2_with fail
    refine hcall.mono ?_
    rintro e w' ⟨rfl, hb'⟩
    clear hcall
    go_wp2
    go_ret
    obtain ⟨k, h1, rfl, h2, h3⟩ := HY.out
    exact ⟨Or.inr ⟨k, h1, rfl, h2, h3⟩, qab HB.out hb'⟩
  ·have hlt2 : ¬ (i : Int) < l.length := by omega
   have HX : Hid (NoP p l l.length) := fun j hj => HNO.out j (by omega)
   clear hb hi hlt
   go_wp2
   go_ret
   exact ⟨Or.inl ⟨rfl, HX.out⟩, HB.out⟩
section
variable {ops : Array Oper} {rest : List Oper} {o : Oper} {a : Act} {Q : Exit → Act → World → Prop}
theorem zero_one (z : Array Value) (n : Nat) (h1 : ∀ u ∈ z.toList, u.oneCell' = true) (hz : z.size ≠ 0) : ∀ u ∈ (Builtin.zeroCells z n).toList, u.oneCell' = true := by
 intro u hu
 simp only [Builtin.zeroCells] at hu
 simp at hu
 obtain ⟨i, hi, rfl⟩ := hu
 have hlt : i % z.size < z.size := Nat.mod_lt _ (by omega)
 rw [getElem!_pos z _ hlt]
 exact h1 _ (by simp)
theorem qcu (w : World) (hgd : o.guard = none) (hd : o.dst = none) (x : Operand) (ho : o.op = .call { callee := .builtin .clear, args := #[x], argTypes := #[83] })
  (g q n c : Nat) (hn : 0 < n) (hx : a.eval x = .slice (some ⟨g, q, none⟩) n c) (cur : Array Value) (t : TypeId) (hg : w.heap[g]? = some (.cells cur t (0, 0))) (hfit : q + n * 10 ≤ cur.size)
  (h : ∀ wq zs, zs.length = n * 10 → wq.heap[g]? = some (.cells (segA cur q zs) t (0, 0)) → Turn (fun i => i = g) w wq → wpList Tryz.prog ops Q rest a wq) : wpList Tryz.prog ops Q (o :: rest) a w := by
 have hz : ∀ w, (zeroValue 91).run Tryz.prog w = .ok e0.v w := Tryz.zeroValue91
 have hzl : (Builtin.zeroCells e0.v.cells n).toList.length = n * 10 := by simp [Builtin.zeroCells, Value.cells]
 have hst := run_storeCells_at Tryz.prog g q t (Builtin.zeroCells e0.v.cells n).toList 0 cur w hg (by rw [hzl]; omega) (zero_one _ _ (e0.one) (by decide))
 simp only [Nat.add_zero] at hst
 have hrun : ∀ ty, (Builtin.clear_ #[83] ty #[.slice (some ⟨g, q, none⟩) n c]).run Tryz.prog w = .ok (.tuple #[]) (w.setRow g (segA cur q (Builtin.zeroCells e0.v.cells n).toList)) := fun ty => by
  obtain ⟨m, rfl⟩ : ∃ m, n = m + 1 := ⟨n - 1, by omega⟩
  simp only [Builtin.clear_]
  simp [run_underlying Tryz.underlying83, hz, hst, segA]
 refine wpList_plain hgd fun K hK => ?_
 unfold Oper.wp execOp
 simp only [ho, resolve, invoke, builtin, Sem.run_bind, Sem.run_pure, Result.andThen_ok, List.map_toArray, List.map_cons, List.map_nil, hx, hrun]
 refine hK _ _ ?_
 rw [hd]
 exact h _ _ hzl (setRow_heap _ _ _ _ _ _ hg) (qbk _ _ _)
end
abbrev rowE (dk : List En) (rest : List Value) : Array Value := (ecs dk ++ rest).toArray
theorem rowE_rd {w : World} {g : Nat} {t : TypeId} {dk : List En} {rest : List Value} (h : w.heap[g]? = some (.cells (rowE dk rest) t (0, 0))) : RdA w (some ⟨g, 0, none⟩) dk := fun i hi => by
 refine ⟨g, 0, rfl, qag h, fun j u hu => ?_⟩
 have hj : j < 10 := by rw [← ((gE dk i)).len]; exact (List.getElem?_eq_some_iff.1 hu).1
 rw [cell_of_row _ _ _ _ _ _ h, List.getElem?_toArray, Nat.zero_add, List.getElem?_append_left (by rw [qau]; omega), qel dk i j hj hi]
 exact hu
theorem rowE_set (dk : List En) (rest : List Value) (i : Nat) (e : En) (hi : i < dk.length) : segA (rowE dk rest) (i * 10) e.cs = rowE (dk.set i e) rest := by
 unfold segA
 have e1 : dk.set i e = dk.take i ++ e :: dk.drop (i + 1) := List.set_eq_take_append_cons_drop.trans (if_pos hi)
 rw [e1]
 congr 1
 rw [qed]
 show _ = ecs (dk.take i) ++ (e.cs ++ ecs (dk.drop (i + 1))) ++ rest
 rw [List.take_append_of_le_length (by rw [qau]; omega), qfq, En.len, List.drop_append_of_le_length (by rw [qau]; omega), show i * 10 + 10 = (i + 1) * 10 by omega, ecs_drop]
 simp only [List.append_assoc]
structure KInv (p : En → Bool) (l : List En) (j i : Nat) (dk : List En) : Prop where
 lt : i < j
 len : dk.length = l.length
 low : dk.take i = (l.take j).filter (fun e => !p e)
 high : dk.drop j = l.drop j
theorem qat (l : List En) (j : Nat) (hj : j < l.length) : l.take (j + 1) = l.take j ++ [(gE l j)] := by
 rw [List.take_add_one, List.getElem?_eq_getElem hj, qbp l j hj]; rfl
theorem filt0 {p : En → Bool} {y : En} (h : p y = true) : [y].filter (fun e => !p e) = [] := by simp [h]
theorem filt1 {p : En → Bool} {y : En} (h : p y = false) : [y].filter (fun e => !p e) = [y] := by simp [h]
theorem KInv.start {p : En → Bool} {l : List En} {k : Nat} (hk : k < l.length) (h1 : NoP p l k) (h2 : IsP p l k) : KInv p l (k + 1) k l := by
 refine ⟨by omega, rfl, ?_, rfl⟩
 rw [qat l k hk, List.filter_append]
 have e1 : [(gE l k)].filter (fun e => !p e) = [] := filt0 h2
 have e2 : (l.take k).filter (fun e => !p e) = l.take k := List.filter_eq_self.2 fun e he => by
  obtain ⟨j, hj, rfl⟩ := List.getElem_of_mem he
  have hjk : j < k := by simp at hj; omega
  have h3 := h1 j hjk
  rw [qbp l j (by omega)] at h3
  rw [List.getElem_take, h3]; rfl
 rw [e1, e2, List.append_nil]
theorem KInv.keep {p : En → Bool} {l : List En} {j i : Nat} {dk : List En} (h : KInv p l j i dk) (hj : j < l.length) (hp : p (gE l j) = false) : KInv p l (j + 1) (i + 1) (dk.set i (gE l j)) := by
 have hl := h.lt
 have hn := h.len
 refine ⟨by omega, by simpa using hn, ?_, ?_⟩
 ·rw [qat l j hj, List.filter_append, ← h.low]
  have e1 : [(gE l j)].filter (fun e => !p e) = [(gE l j)] := filt1 hp
  rw [e1, List.take_add_one, List.take_set_of_le (by omega), List.getElem?_set_self (by omega)]
  rfl
 ·have hd := congrArg (List.drop 1) h.high
  rw [List.drop_drop, List.drop_drop] at hd
  rw [List.drop_set_of_lt (by omega)]
  exact hd
theorem KInv.skip {p : En → Bool} {l : List En} {j i : Nat} {dk : List En} (h : KInv p l j i dk) (hj : j < l.length) (hp : p (gE l j) = true) : KInv p l (j + 1) i dk := by
 have hl := h.lt
 refine ⟨by omega, h.len, ?_, ?_⟩
 ·rw [qat l j hj, List.filter_append, ← h.low]
  have e1 : [(gE l j)].filter (fun e => !p e) = [] := filt0 hp
  rw [e1, List.append_nil]
 ·have hd := congrArg (List.drop 1) h.high
  rwa [List.drop_drop, List.drop_drop] at hd
theorem KInv.get {p : En → Bool} {l : List En} {j i : Nat} {dk : List En} (h : KInv p l j i dk) (hj : j < l.length) : (gE dk j) = (gE l j) := by
 have hn := h.len
 have h2 := congrArg (fun x => x[0]?) h.high
 simp only [List.getElem?_drop, Nat.add_zero] at h2
 rw [List.getElem?_eq_getElem hj, List.getElem?_eq_getElem (by omega : j < dk.length)] at h2
 rw [qbp l j hj, qbp dk j (by omega)]
 exact Option.some.inj h2
theorem KInv.done {p : En → Bool} {l : List En} {i : Nat} {dk : List En} (h : KInv p l l.length i dk) : dk.take i = l.filter (fun e => !p e) ∧ i = (l.filter (fun e => !p e)).length := by
 have h1 := h.low
 rw [List.take_length] at h1
 refine ⟨h1, ?_⟩
 rw [← h1, List.length_take, h.len]
 have := h.lt
 omega
theorem own_kept {w : World} {base g : Nat} {t : TypeId} {cap n i : Nat} {dk : List En} {rest zs : List Value} (hb : base ≤ g) (hi : i ≤ n) (hn : n ≤ cap) (hcap : cap ≤ maxLen) (hd : dk.length = n) (hs : (rowE dk rest).size = cap * 10) (hz : zs.length = (n - i) * 10)
  (h : w.heap[g]? = some (.cells (segA (rowE dk rest) (i * 10) zs) t (0, 0))) : w.ownsRow base t 10 (.slice (some ⟨g, 0, none⟩) i cap) (dk.take i).length (ecs (dk.take i)) := by
 have hl : (dk.take i).length = i := by rw [List.length_take]; omega
 have hsz : (ecs dk ++ rest).length = cap * 10 := by simpa using hs
 refine ⟨by rw [qau], Or.inr ⟨g, cap, _, by rw [hl], hb, h, by omega, hcap, ?_, ?_⟩⟩
 ·unfold segA
  have h1 := qau dk
  rw [List.size_toArray, List.length_append, List.length_append, List.length_take, List.length_drop, hsz, hz]
  rw [hd] at h1
  omega
 ·unfold segA
  simp only
  rw [hl, List.append_assoc, List.take_append_of_le_length (by rw [List.length_take, hsz]; omega), List.take_take, Nat.min_self, List.take_append_of_le_length (by rw [qau]; omega), qfq]
theorem info_en : (Tryz.prog.info? 91).map (·.size) = some 10 := by kernel_rfl
theorem qdb {w w1 w2 : World} {X : Nat → Prop} (h : Turn X w w1) (hb : Below w1.heap.size w1 w2) : Turn X w w2 := h.trans (qak (fun _ => False) hb) (fun _ _ h => absurd h id)
def OwnB (v : Value) : Nat → Prop := fun i => v.ownBlock = some i
theorem qep (q : Nat) (lb : Array Value) (eg : ∀ args w, (callFunc q args).run Tryz.prog w = .ok (.enter q args) w) (p : En → Bool) (l : List En) (g cap base : Nat) (rest : List Value) (w : World) (hn : l.length ≤ 1000) (hcap : l.length ≤ cap) (hcm : cap ≤ maxLen) (hbase : base ≤ g)
  (hg : w.heap[g]? = some (.cells (rowE l rest) 91 (0, 0))) (hs : (rowE l rest).size = cap * 10)
  (hp : ∀ W e, Turn (fun i => i = g) w W → Calls Tryz.prog q (#[e.v] ++ lb) W fun r w' => r = .returned (.bool (p e)) ∧ Below W.heap.size W w') :
  Calls Tryz.prog 121 #[.slice (some ⟨g, 0, none⟩) l.length cap, .func (.func q) #[] lb] w fun r w' => r = .returned (.slice (some ⟨g, 0, none⟩) (l.filter (fun e => !p e)).length cap) ∧ w'.ownsRow base 91 10 (.slice (some ⟨g, 0, none⟩) (l.filter (fun e => !p e)).length cap) (l.filter (fun e => !p e)).length (ecs (l.filter (fun e => !p e))) ∧ Turn (fun i => i = g) w w' := by
 have hI := qdw q lb eg p l (some ⟨g, 0, none⟩) cap w hn (rowE_rd hg) (fun W e hb => hp W e (qak _ hb))
 have HG := Hid.mk hg
 have HP := Hid.mk hp
 have HS := Hid.mk hs
 have HC := Hid.mk (And.intro hcap (And.intro hcm hbase))
 have hnI : (l.length : Int) ≤ 1000 := by omega
 have hcI : (l.length : Int) ≤ (cap : Int) := by omega
 clear hg hp hs hcap hcm hbase hn
 go_enter Tryz.func121, Tryz.ntmps121
 go_wp2_with fail
 refine hI.mono ?_
 rintro e w1 ⟨⟨rfl, hno⟩ | ⟨k, hk, rfl, hno, hyes⟩, hb⟩
 ·have HX : Hid (l.filter (fun e => !p e) = l) := List.filter_eq_self.2 fun e he => by
   obtain ⟨j, hj, rfl⟩ := List.getElem_of_mem he
   have := hno j hj
   rw [qbp l j hj] at this
   rw [this]; rfl
  have HB := Hid.mk hb
  clear hI hno hb
  go_wp2
  go_ret
  rw [HX.out]
  refine ⟨rfl, ⟨qau l, Or.inr ⟨g, cap, _, rfl, HC.out.2.2, qaa HB.out HG.out, HC.out.1, HC.out.2.1, HS.out, ?_⟩⟩, qak _ HB.out⟩
  show (ecs l ++ rest).take (l.length * 10) = ecs l
  rw [← qau, List.take_left]
 ·have HB := Hid.mk hb
  have HI0 := Hid.mk (KInv.start hk hyes hno)
  have hkI : (k : Int) < l.length := by omega
  have HKL := Hid.mk hk
  clear hI hno hyes hb hk
  have hk1 : ¬ ((k : Int) = -1) := by omega
  go_wp2
  go_loopw [5, 6, 7] (fun s5 s6 _ wr => ∃ (i j : Nat) (dk : List En), s5 = .int .i64 i ∧ s6 = .int .i64 j ∧ j ≤ l.length ∧ KInv p l j i dk ∧ wr.heap[g]? = some (.cells (rowE dk rest) 91 (0, 0)) ∧ Turn (fun i => i = g) w wr) (fun _ s6 _ _ => l.length - (RowKit.intOf s6).toNat)
  case atStart => exact ⟨k, k + 1, l, rfl, by go_num, HKL.out, HI0.out, qaa HB.out HG.out, qak _ HB.out⟩
  case round =>
   obtain ⟨i, j, dk, rfl, rfl, hjl, hK, hgr, hT⟩ := hrel
   have HK := Hid.mk hK
   have HGR := Hid.mk hgr
   have HTU := Hid.mk hT
   have hij := hK.lt
   have hdl := hK.len
   by_cases hlt : j < l.length
   ·have hlt2 : (j : Int) < l.length := by omega
    have HLT := Hid.mk hlt
    have hjb : (j : Int) < 1000 := by omega
    have hiI : (i : Int) < l.length := by omega
    have hib : (i : Int) < 1000 := by omega
    obtain ⟨g', o', e1, -, hc⟩ := rowE_rd hgr j (by omega)
    cases e1
    rw [hK.get hlt] at hc
    have d0 := hc 0 _ rfl
    have d1 := hc 1 _ rfl
    have d2 := hc 2 _ rfl
    have d3 := hc 3 _ rfl
    have d4 := hc 4 _ rfl
    have d5 := hc 5 _ rfl
    have d6 := hc 6 _ rfl
    have d7 := hc 7 _ rfl
    have d8 := hc 8 _ rfl
    have d9 := hc 9 _ rfl
    simp only [Nat.add_zero, Nat.zero_add] at d0 d1 d2 d3 d4 d5 d6 d7 d8 d9
    have HFIT : Hid (i * 10 + 10 ≤ (rowE dk rest).size) := by
     show _ ≤ _
     rw [List.size_toArray, List.length_append, qau]; omega
    have HST := Hid.mk (rowE_set dk rest i (gE l j) (by omega))
    have HKP := Hid.mk (fun hp => hK.keep hlt hp)
    have HSK := Hid.mk (fun hp => hK.skip hlt hp)
    clear hK hgr hT hc hij hdl hlt hjl
    cases hpy : p (gE l j)
    ·have HKK := Hid.mk (HKP.out hpy)
     have hcall := fun W hW => HP.out W (gE l j) hW
     rw [hpy] at hcall
     clear hpy HKP HSK
     generalize (gE l j) = y at *
     obtain ⟨b0, b1, b2, b3, b4, b5, b6, b7, b8, b9⟩ := y
     simp only [En.v, En.cs] at *
     have HCA := Hid.mk hcall
     clear hcall
     go_wp2_with fail
     refine (HCA.out _ (qdb HTU.out (qac _ _))).mono ?_
     rintro e w' ⟨rfl, hb'⟩
     have HB2 := Hid.mk (qab (qac _ _) hb')
     have hK7 := qaa hb' (heap_alloc_new wr (.cells #[.int .i64 b0, .int .u64 b1, .int .i64 b2, .int .i64 b3, .int .u64 b4, .bool b5, .bool b6, .bool b7, .bool b8, .int .i64 b9] 91))
     obtain ⟨q0, q1, q2, q3, q4, q5, q6, q7, q8, q9⟩ := qck hK7
     clear hK7 hb' HCA d0 d1 d2 d3 d4 d5 d6 d7 d8 d9
     go_wp2_with (first
      | (refine qad rfl 91 _ _ rfl rfl g (i * 10) _ #[.int .i64 b0, .int .u64 b1, .int .i64 b2, .int .i64 b3, .int .u64 b4, .bool b5, .bool b6, .bool b7, .bool b8, .int .i64 b9] rfl rfl rfl 91 _ (qaa HB2.out HGR.out) HFIT.out info_en (by simp [Value.oneCell']) _ HST.out ?_
         intro w8 hk8 ht8)
      | fail)
     go_roundw
     case rel => exact ⟨_, _, _, _, _, _, _, _, _, _, _, _, _, _, _, _, _, _, _, _, _, _, _, ⟨i + 1, j + 1, _, by go_num, by go_num, by have := HLT.out; omega, HKK.out, hk8, (qdb HTU.out HB2.out).trans ht8 (fun _ _ h => h)⟩, rfl⟩
     case measure => have := HLT.out; simp [RowKit.intOf]; omega
    ·have HKK := Hid.mk (HSK.out hpy)
     have hcall := fun W hW => HP.out W (gE l j) hW
     rw [hpy] at hcall
     clear hpy HKP HSK HST
     generalize (gE l j) = y at *
     obtain ⟨b0, b1, b2, b3, b4, b5, b6, b7, b8, b9⟩ := y
     simp only [En.v] at *
     have HCA := Hid.mk hcall
     clear hcall
     go_wp2_with fail
     refine (HCA.out _ (qdb HTU.out (qac _ _))).mono ?_
     rintro e w' ⟨rfl, hb'⟩
     have HB2 := Hid.mk (qab (qac _ _) hb')
     clear hb' HCA d0 d1 d2 d3 d4 d5 d6 d7 d8 d9
     go_wp2
     go_roundw
     case rel => exact ⟨_, _, _, _, _, _, _, _, _, _, _, _, _, _, _, _, _, _, _, _, _, _, _, ⟨i, j + 1, dk, rfl, by go_num, by have := HLT.out; omega, HKK.out, qaa HB2.out HGR.out, qdb HTU.out HB2.out⟩, rfl⟩
     case measure => have := HLT.out; simp [RowKit.intOf]; omega
   ·obtain rfl : j = l.length := by omega
    have hlt2 : ¬ (l.length : Int) < l.length := by omega
    have hiI : (i : Int) < l.length := by omega
    have hin : i ≤ l.length := by omega
    have HIN := Hid.mk hij
    have hicap : (i : Int) ≤ (cap : Int) := by omega
    have HDN := Hid.mk hK.done
    have HDL := Hid.mk hdl
    have HSZ : Hid ((rowE dk rest).size = cap * 10) := by
     have := HS.out
     show _ = _
     rw [List.size_toArray, List.length_append, qau] at this ⊢
     rw [hdl]; exact this
    clear hK hgr hT hdl hlt hjl hij
    go_wp2_with (first
     | (refine qcu _ rfl rfl _ rfl g (i * 10) (l.length - i) (cap - i) (by have := HIN.out; omega) rfl _ _ HGR.out (by rw [HSZ.out]; have := HC.out.1; have := HIN.out; omega) ?_
        intro w8 zs hzl hk8 ht8)
     | fail)
    go_ret
    have HO := own_kept HC.out.2.2 hin HC.out.1 HC.out.2.1 HDL.out HSZ.out hzl hk8
    rw [HDN.out.1] at HO
    rw [← HDN.out.2] at HO ⊢
    exact ⟨rfl, HO, HTU.out.trans ht8 (fun _ _ h => h)⟩
theorem step_roomE {ops : Array Oper} {o : Oper} {a : Act} {Q : Exit → Act → World → Prop} {K : Act → World → Prop} {E : Prop} (w : World) (hgd : o.guard = none) (s x : Operand) (hop : o.op = .call { callee := .builtin .append, args := #[s, x], argTypes := #[83, 83] })
  (g n cap : Nat) (hs : a.eval s = .slice (some ⟨g, 0, none⟩) n cap) (cur : Array Value) (hg : w.heap[g]? = some (.cells cur 91 (0, 0))) (m : List En) (ad : Addr) (k c : Nat) (hk : k = m.length) (hx : a.eval x = .slice (some ad) k c) (hc : ∀ j u, (ecs m)[j]? = some u → w.cell? (ad.add j) = some u) (M : Nat) (hM : n + k = M) (hroom : M ≤ cap) (hfit : M * 10 ≤ cur.size)
  (h : ∀ wq, wq.heap[g]? = some (.cells (segA cur (n * 10) (ecs m)) 91 (0, 0)) → Turn (fun i => i = g) w wq → K (a.put o.dst (.slice (some ⟨g, 0, none⟩) M cap)) wq) :
  if Region.wanted o (yielded ops a.tmps) = true then Oper.wp Tryz.prog o a w K Q else E := by
 have hw : Region.wanted o (yielded ops a.tmps) = true := by simp [Region.wanted, hgd]
 rw [if_pos hw]
 subst hk hM
 obtain ⟨i0, hi, hz0, hz1, hz2⟩ := infoP etyT.info
 have hrun := run_append_room (P := Tryz.prog) w 83 o.type 91 i0 etyT.sl hi g n cap cur hg ad m.length c (ecs m) (by rw [hz1, qau]) hc (qfg m) hroom (by rw [hz1, qau]; omega)
 rw [hz1] at hrun
 unfold Oper.wp execOp
 simp only [hop, resolve, invoke, builtin, Sem.run_bind, Sem.run_pure, Result.andThen_ok, List.map_toArray, List.map_cons, List.map_nil, hs, hx, hrun]
 exact h _ (setRow_heap _ _ _ _ _ _ hg) (qbk _ _ _)
theorem qfk (cur : Array Value) (o : Nat) (vs : List Value) (h : o + vs.length ≤ cur.size) : (segA cur o vs).size = cur.size := by
 unfold segA
 rw [List.size_toArray, List.length_append, List.length_append, List.length_take, List.length_drop, Array.length_toList]
 omega
theorem seg_take (cur : Array Value) (o : Nat) (vs : List Value) (h : o + vs.length ≤ cur.size) : (segA cur o vs).toList.take (o + vs.length) = cur.toList.take o ++ vs := by
 unfold segA
 simp only
 have : (cur.toList.take o ++ vs).length = o + vs.length := by rw [List.length_append, List.length_take, Array.length_toList]; omega
 rw [← this, List.take_left]
theorem seg_take0 (cur : Array Value) (o : Nat) (vs : List Value) (h : o + vs.length ≤ cur.size) : (segA cur o vs).toList.take o = cur.toList.take o := by
 unfold segA
 simp only
 rw [List.append_assoc, List.take_append_of_le_length (by rw [List.length_take, Array.length_toList]; omega), List.take_take, Nat.min_self]
theorem own_erased {w : World} {base g : Nat} {t : TypeId} {cap i : Nat} {l : List En} {rest zs : List Value} (hb : base ≤ g) (hi : i < l.length) (hn : l.length ≤ cap) (hcap : cap ≤ maxLen) (hs : (rowE l rest).size = cap * 10) (hz : zs.length = 10)
  (h : w.heap[g]? = some (.cells (segA (segA (rowE l rest) (i * 10) (ecs (l.drop (i + 1)))) ((l.length - 1) * 10) zs) t (0, 0))) : w.ownsRow base t 10 (.slice (some ⟨g, 0, none⟩) (l.length - 1) cap) (l.eraseIdx i).length (ecs (l.eraseIdx i)) := by
 have hl : (l.eraseIdx i).length = l.length - 1 := List.length_eraseIdx_of_lt hi
 have hd : (ecs (l.drop (i + 1))).length = (l.length - (i + 1)) * 10 := by rw [qau, List.length_drop]
 have h1 := qfk (rowE l rest) (i * 10) (ecs (l.drop (i + 1))) (by rw [hd, hs]; omega)
 have h2 := qfk (segA (rowE l rest) (i * 10) (ecs (l.drop (i + 1)))) ((l.length - 1) * 10) zs (by rw [h1, hs, hz]; omega)
 refine ⟨by rw [qau], Or.inr ⟨g, cap, _, by rw [hl], hb, h, by omega, hcap, by rw [h2, h1, hs], ?_⟩⟩
 rw [hl, seg_take0 _ _ _ (by rw [h1, hs, hz]; omega), show (l.length - 1) * 10 = i * 10 + (ecs (l.drop (i + 1))).length by rw [hd]; omega, seg_take _ _ _ (by rw [hd, hs]; omega)]
 show (ecs l ++ rest).take (i * 10) ++ _ = _
 rw [List.take_append_of_le_length (by rw [qau]; omega), qfq, ← qed, List.eraseIdx_eq_take_drop_succ]
theorem delete_row (l : List En) (i g cap base : Nat) (rest : List Value) (w : World) (hn : l.length ≤ 1000) (hi : i < l.length) (hcap : l.length ≤ cap) (hcm : cap ≤ maxLen) (hbase : base ≤ g)
  (hg : w.heap[g]? = some (.cells (rowE l rest) 91 (0, 0))) (hs : (rowE l rest).size = cap * 10) :
  Calls Tryz.prog 102 #[.slice (some ⟨g, 0, none⟩) l.length cap, .int .i64 i, .int .i64 ((i : Int) + 1)] w fun r w' => r = .returned (.slice (some ⟨g, 0, none⟩) (l.length - 1) cap) ∧ w'.ownsRow base 91 10 (.slice (some ⟨g, 0, none⟩) (l.length - 1) cap) (l.eraseIdx i).length (ecs (l.eraseIdx i)) ∧ Turn (fun i => i = g) w w' := by
 have HG := Hid.mk hg
 have HS := Hid.mk hs
 have HC := Hid.mk (And.intro hcap (And.intro hcm hbase))
 have HI := Hid.mk hi
 have hnI : (l.length : Int) ≤ 1000 := by omega
 have hcI : (l.length : Int) ≤ (cap : Int) := by omega
 have hiI : (i : Int) < (l.length : Int) := by omega
 have hi1 : (i : Int) + 1 ≤ (l.length : Int) := by omega
 have hic : (i : Int) + 1 ≤ (cap : Int) := by omega
 have hm : (cap : Int) ≤ 9223372036854775807 := by unfold maxLen at hcm; omega
 obtain ⟨M, hM⟩ : ∃ M, M = l.length - 1 := ⟨_, rfl⟩
 have HM := Hid.mk hM
 have hMi : (M : Int) < (l.length : Int) := by omega
 have hMc : (M : Int) ≤ (cap : Int) := by omega
 have hMn : i + (l.length - (i + 1)) = M := by omega
 have hMcap : M ≤ cap := by omega
 have HFIT : Hid (M * 10 ≤ (rowE l rest).size) := by show _ ≤ _; rw [hs]; omega
 have HSZ := Hid.mk (qfk (rowE l rest) (i * 10) (ecs (l.drop (i + 1))) (by rw [qau, List.length_drop, hs]; omega))
 have HML : Hid (l.length - M = 1) := by show _ = _; omega
 rw [← hM]
 clear hg hs hcap hcm hbase hn hi hM
 have hRD := (rowE_rd HG.out).drop (i + 1)
 rw [Nat.zero_add] at hRD
 have HN : Hid (l.length - (i + 1) = (l.drop (i + 1)).length) := (List.length_drop ..).symm
 have HRD := Hid.mk hRD
 clear hRD
 obtain ⟨A, hA, hsrc⟩ : ∃ A : Addr, (if cap = i + 1 then some (⟨g, 0, none⟩ : Addr) else some ⟨g, (i + 1) * 10, none⟩) = some A ∧ Hid (∀ j u, (ecs (l.drop (i + 1)))[j]? = some u → w.cell? (A.add j) = some u) := by
  by_cases h : cap = i + 1
  ·refine ⟨⟨g, 0, none⟩, by simp [h], fun j u hu => ?_⟩
   rw [List.drop_eq_nil_of_le (by omega)] at hu
   cases hu
  ·exact ⟨⟨g, (i + 1) * 10, none⟩, by simp [h], HRD.out.cells⟩
 have nic : i ≤ cap := by omega
 have nil1 : i + 1 ≤ l.length := by omega
 have nic1 : i + 1 ≤ cap := by omega
 have h0i : (0 : Int) ≤ (i : Int) + 1 := by omega
 clear HRD
 go_enter Tryz.func102, Tryz.ntmps102
 go_wp2
 go_region_law
  ((refine step_roomE _ rfl _ _ rfl g i cap rfl _ (qaa (Below.refl _ _).drew HG.out) (l.drop (i + 1)) A _ (cap - (i + 1)) HN.out (by rfl) (fun j u hu => cell_later (Below.refl _ _).drew (hsrc.out j u hu)) M hMn hMcap HFIT.out ?_
    intro w2 hk2 ht2
    have HK2 := Hid.mk hk2
    have HT2 := Hid.mk ht2
    clear hk2 ht2))
 have hMl : M ≤ l.length := by omega
 have hMne : ¬ (cap = M) := by omega
 clear hA hsrc hMn nil1 nic1 nic
 go_wp2_with (first
  | (refine qcu _ rfl rfl _ rfl g (M * 10) (l.length - M) (cap - M) (by have := HML.out; omega) rfl _ _ HK2.out (by rw [HSZ.out, HML.out]; have := HFIT.out; have := HS.out; have := HM.out; have := HC.out.1; have := HI.out; omega) ?_
     intro w8 zs hzl hk8 ht8)
  | fail)
 go_ret
 rw [HML.out, Nat.one_mul] at hzl
 have hk9 := hk8
 rw [HM.out] at hk9
 have HO := own_erased HC.out.2.2 HI.out HC.out.1 HC.out.2.1 HS.out hzl hk9
 rw [← HM.out] at HO
 exact ⟨rfl, HO, ((qak _ (Below.refl _ _).drew).trans HT2.out (fun _ _ h => h)).trans ht8 (fun _ _ h => h)⟩
structure BufV (w : World) (X : Nat → Prop) (t : Nat) (most : Int) (v : Value) (l : List En) : Prop where
 row : w.heap[t]? = some (.cells #[.int .i64 most, v] 164 (0, 0))
 own : w.ownsRow 0 91 10 v l.length (ecs l)
 xg : ∀ g, v.ownBlock = some g → X g ∧ g ≠ t
 xt : X t
 lt : ∀ i, X i → i < w.heap.size
 ok : ∀ e ∈ l, e.ok
def Buf (w : World) (X : Nat → Prop) (t : Nat) (most : Int) (l : List En) : Prop := ∃ v, BufV w X t most v l
theorem qdp {w w' : World} {b : Nat} {T : TypeId} {v : Value} {n : Nat} {xs : List Value} (h : w.ownsRow b T 10 v n xs) (hb : ∀ g, v.ownBlock = some g → w'.heap[g]? = w.heap[g]?) : w'.ownsRow b T 10 v n xs := by
 refine ⟨h.1, ?_⟩
 rcases h.2 with hn | ⟨g, cap, cur, rfl, h1, hg, r⟩
 ·exact Or.inl hn
 ·exact Or.inr ⟨g, cap, cur, rfl, h1, (hb g rfl).trans hg, r⟩
theorem BufV.kept {w w' : World} {X : Nat → Prop} {t : Nat} {most : Int} {v : Value} {l : List En} (h : BufV w X t most v l) (hb : ∀ i, X i → w'.heap[i]? = w.heap[i]?) (hs : w.heap.size ≤ w'.heap.size) : BufV w' X t most v l :=
 ⟨(hb t h.xt).trans h.row, qdp h.own (fun g hg => hb g (h.xg g hg).1), h.xg, h.xt, fun i hi => Nat.lt_of_lt_of_le (h.lt i hi) hs, h.ok⟩
theorem BufV.later {w w' : World} {X : Nat → Prop} {t : Nat} {most : Int} {v : Value} {l : List En} (h : BufV w X t most v l) (hb : Below w.heap.size w w') : BufV w' X t most v l :=
 h.kept (fun i hi => hb.block i (h.lt i hi)) hb.size
theorem Buf.later {w w' : World} {X : Nat → Prop} {t : Nat} {most : Int} {l : List En} (h : Buf w X t most l) (hb : Below w.heap.size w w') : Buf w' X t most l := by
 obtain ⟨v, h⟩ := h
 exact ⟨v, h.later hb⟩
theorem BufV.form {w : World} {X : Nat → Prop} {t : Nat} {most : Int} {v : Value} {l : List En} (h : BufV w X t most v l) : ∃ ad cap, v = .slice ad l.length cap ∧ (ad = none ∨ ∃ g o, ad = some ⟨g, o, none⟩) ∧ RdA w ad l := by
 obtain ⟨ad, cap, rfl, hr, -⟩ := own_rd h.own
 refine ⟨ad, cap, rfl, ?_, hr⟩
 rcases h.own.2 with ⟨e, -⟩ | ⟨g, c, cur, e, -⟩
 ·simp only [Value.slice.injEq] at e; exact Or.inl e.1
 ·simp only [Value.slice.injEq] at e; exact Or.inr ⟨g, 0, e.1⟩
theorem qaz {w : World} {K : Nat} {a b : Value} {T : TypeId} (h : w.heap[K]? = some (.cells #[a, b] T (0, 0))) : w.cell? ⟨K, 0, none⟩ = some a ∧ w.cell? ⟨K, 1, none⟩ = some b :=
 ⟨(cell_of_row _ _ _ _ _ _ h).trans rfl, (cell_of_row _ _ _ _ _ _ h).trans rfl⟩
theorem new_bad (m : Int) (h : m < 1 ∨ 64 < m) (w : World) :
  Calls Tryz.prog 53 #[.int .i64 m] w fun r w' => r = .returned (.tuple #[.pointer none, .int .i64 12]) ∧ w = w' := by
 by_cases h1 : m < 1
 ·have d1 : decide (m < 1) = true := decide_eq_true h1
  go_enter Tryz.func53, Tryz.ntmps53
  go_wp2
  go_ret2
  exact ⟨rfl, rfl⟩
 ·have h2 : 64 < m := by omega
  have d1 : decide (m < 1) = false := decide_eq_false h1
  have d2 : decide (64 < m) = true := decide_eq_true h2
  go_enter Tryz.func53, Tryz.ntmps53
  go_wp2
  go_ret2
  exact ⟨rfl, rfl⟩
theorem new_ok (m : Int) (h1 : 1 ≤ m) (h2 : m ≤ 64) (w : World) :
  Calls Tryz.prog 53 #[.int .i64 m] w fun r w' => r = .returned (.tuple #[.pointer (some ⟨w.heap.size, 0, none⟩), .int .i64 0]) ∧ Below w.heap.size w w' ∧ Buf w' (fun i => i = w.heap.size) w.heap.size m [] := by
 have d1 : decide (m < 1) = false := decide_eq_false (by omega)
 have d2 : decide (64 < m) = false := decide_eq_false (by omega)
 have HB : Hid (Buf (w.alloc (.cells #[.int .i64 m, .slice none 0 0] 164)) (fun i => i = w.heap.size) w.heap.size m []) :=
  ⟨_, heap_alloc_new _ _, World.ownsRow_nil _ _ _ _, (fun g hg => by cases hg), rfl, (fun i hi => by rw [hi]; simp), (fun e he => by cases he)⟩
 go_enter Tryz.func53, Tryz.ntmps53
 go_wp2
 go_ret2
 exact ⟨rfl, qac _ _, HB.out⟩
theorem list_c {w : World} {X : Nat → Prop} {t : Nat} {most : Int} {l : List En} (h : Buf w X t most l) (hn : l.length ≤ 1000) :
  Calls Tryz.prog 45 #[.pointer (some ⟨t, 0, none⟩)] w fun r w' => ∃ ad cap, r = .returned (.slice ad l.length cap) ∧ RdA w' ad l ∧ (∀ b, ad = some b → w.heap.size ≤ b.block) ∧ Below w.heap.size w w' := by
 obtain ⟨v, h⟩ := h
 obtain ⟨ad, cap, rfl, hf, hr⟩ := h.form
 obtain ⟨-, c1⟩ := qaz h.row
 have hc := clone_c l ad cap hf hn w hr
 clear h hf hr
 go_enter Tryz.func45, Tryz.ntmps45
 go_wp2_with fail
 refine hc.mono ?_
 rintro e w1 ⟨ad', cap', rfl, hr, hb, hB⟩
 clear hc c1
 go_wp2
 go_ret
 exact ⟨_, _, rfl, hr, hb, hB⟩
theorem info_sl : (Tryz.prog.info? 83).map (·.size) = some 1 := by kernel_rfl
theorem BufV.turned {w w1 w2 : World} {X : Nat → Prop} {t : Nat} {most : Int} {v v' : Value} {l l' : List En} (h : BufV w X t most v l) (ht : Turn (OwnB v) w w1) (ho : w1.ownsRow 0 91 10 v' l'.length (ecs l')) (hv : v'.ownBlock = v.ownBlock) (hr : w2.heap[t]? = some (.cells #[.int .i64 most, v'] 164 (0, 0))) (h2 : Turn (fun i => i = t) w1 w2) (hok : ∀ e ∈ l', e.ok) :
  BufV w2 X t most v' l' ∧ Turn X w w2 := by
 have hx : ∀ g, v'.ownBlock = some g → X g ∧ g ≠ t := fun g hg => h.xg g (hv ▸ hg)
 refine ⟨⟨hr, qdp ho (fun g hg => h2.block g ?_ (hx g hg).2), hx, h.xt, fun i hi => Nat.lt_of_lt_of_le (h.lt i hi) (Nat.le_trans ht.size h2.size), hok⟩, ?_⟩
 ·exact (ho.lt g hg).2
 ·refine Turn.trans (X := X) (Y := fun i => i = t) ⟨ht.os, ht.tape, ht.output, ht.size, fun i hi hX => ht.block i hi (fun h3 => hX (h.xg i h3).1)⟩ h2 (fun i _ hi => by rw [hi]; exact h.xt)
theorem drop_no {w : World} {X : Nat → Prop} {t : Nat} {most : Int} {l : List En} (h : Buf w X t most l) (n : Int) (hn : n < 0 ∨ (l.length : Int) ≤ n) (hl : l.length ≤ 1000) :
  Calls Tryz.prog 62 #[.pointer (some ⟨t, 0, none⟩), .int .i64 n] w fun r w' => r = .returned (.bool false) ∧ w = w' := by
 obtain ⟨v, h⟩ := h
 obtain ⟨ad, cap, rfl, hf, hr⟩ := h.form
 obtain ⟨-, c1⟩ := qaz h.row
 have hlI : (l.length : Int) ≤ 1000 := by omega
 clear h hf hr hl
 by_cases h1 : n < 0
 ·have d1 : decide (n < 0) = true := decide_eq_true h1
  go_enter Tryz.func62, Tryz.ntmps62
  go_wp2
  go_ret
  exact ⟨rfl, rfl⟩
 ·have d1 : decide (n < 0) = false := decide_eq_false h1
  have h2 : (l.length : Int) ≤ n := by omega
  have d2 : decide ((l.length : Int) ≤ n) = true := decide_eq_true h2
  go_enter Tryz.func62, Tryz.ntmps62
  go_wp2
  go_ret
  exact ⟨rfl, rfl⟩
theorem drop_yes {w : World} {X : Nat → Prop} {t : Nat} {most : Int} {l : List En} (h : Buf w X t most l) (n : Nat) (hn : n < l.length) (hl : l.length ≤ 1000) :
  Calls Tryz.prog 62 #[.pointer (some ⟨t, 0, none⟩), .int .i64 n] w fun r w' => r = .returned (.bool true) ∧ Buf w' X t most (l.eraseIdx n) ∧ Turn X w w' := by
 obtain ⟨v, h⟩ := h
 obtain ⟨-, c1⟩ := qaz h.row
 have HH := Hid.mk h
 rcases h.own.2 with ⟨-, h0⟩ | ⟨g, cap, cur, rfl, hb, hg, h1, h2, h3, h4⟩
 ·omega
 have hcur : cur = rowE l (cur.toList.drop (l.length * 10)) := by
  unfold rowE
  rw [← h4, List.take_append_drop]
 rw [hcur] at hg h3
 have hD := delete_row l n g cap 0 _ w hl hn h1 h2 hb hg h3
 have hlI : (l.length : Int) ≤ 1000 := by omega
 have hnI : (n : Int) < (l.length : Int) := by omega
 have d1 : decide ((n : Int) < 0) = false := decide_eq_false (by omega)
 have d2 : decide (l.length ≤ n) = false := decide_eq_false (by omega)
 have d2' : ¬ l.length ≤ n := by omega
 have HOK : Hid (∀ e ∈ l.eraseIdx n, e.ok) := fun e he => h.ok e (List.mem_of_mem_eraseIdx he)
 have hne := (h.xg g rfl).2
 clear h hg h1 h2 h3 h4 hcur hb hl hn
 go_enter Tryz.func62, Tryz.ntmps62
 go_wp2_with fail
 refine hD.mono ?_
 rintro e w1 ⟨rfl, ho, ht⟩
 have HR1 := Hid.mk (qae ht HH.out.row (fun h => hne h.symm))
 have HO := Hid.mk ho
 have HT := Hid.mk ht
 clear hD ho ht c1
 go_wp2_with (first
  | (refine qad rfl 83 _ _ rfl rfl t 1 _ #[.slice (some ⟨g, 0, none⟩) (l.length - 1) cap] rfl rfl rfl 164 _ HR1.out (show 1 + 1 ≤ 2 by decide) info_sl (by simp [Value.oneCell']) #[.int .i64 most, .slice (some ⟨g, 0, none⟩) (l.length - 1) cap] rfl ?_
     intro w8 hk8 ht8)
  | fail)
 go_ret
 have hfin := HH.out.turned (v' := .slice (some ⟨g, 0, none⟩) (l.length - 1) cap) (Turn.mk HT.out.os HT.out.tape HT.out.output HT.out.size fun i hi hX => HT.out.block i hi fun h3 => hX (by rw [h3]; rfl)) HO.out rfl hk8 ht8 HOK.out
 exact ⟨rfl, ⟨_, hfin.1⟩, hfin.2⟩
end Go.Proofs.YtfdbdeckohaneaaGreatDoor.TB
