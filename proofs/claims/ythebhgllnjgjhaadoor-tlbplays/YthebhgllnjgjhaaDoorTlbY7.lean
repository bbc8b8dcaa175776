/- A step of a play: a drop of an entry. Made by mktlby.py. -/
import Derived.Test.YthebhgllnjgjhaaDoorTlbY1
namespace Go.Proofs.YthebhgllnjgjhaaDoor
open Go.RowKit

/-- One operation of a region that draws, taken first; where its value goes is said. -/
theorem take_at7 {P : Program} {ops : Array Oper} {Q : Exit → Act → World → Prop} {md : Region.Mode} {S : World → Prop} {i : Nat} {oi : Oper} {v : Value} {fuel : Nat} {listed : Array Bool} {a : Act} {w : World} (t : Tmp) (hi : ops[i]? = some oi) (hd : oi.dst = some t)
    (hs : Region.noSelect ops = true) (hf : Region.free md ops listed i = true) (hr : (Region.ready md ops listed).contains i = true)
    (hQ : ∀ c a w, Q (.panic c) (a.put oi.dst v) w → Q (.panic c) a w) (hy : YieldsIf P ops S oi v a) (hS : S w)
    (h : wpAnyH P md ops Q S fuel (listed.setIfInBounds i true) (a.put (some t) v) w) : wpAnyH P md ops Q S (fuel + 1) listed a w :=
  wpAnyH_take hi hs hf hr hQ hy hS (by rw [hd]; exact h)
/-- Entries appended to a row of the call's own, as one step of a region that draws: of whatever number. -/
theorem step_appV {ops : Array Oper} {o : Oper} {a : Act} {Q : Exit → Act → World → Prop} {K : Act → World → Prop} {E : Prop} {tS tE : TypeId} (hT : ETy tS tE) (w : World) (hg : o.guard = none) (s x : Operand) (hop : o.op = .call { callee := .builtin .append, args := #[s, x], argTypes := #[tS, tS] })
    (base : Nat) (v : Value) (l : List En) (hs : a.eval s = v) (hown : w.ownsRow base tE 10 v l.length (ecs l)) (m : List En) (ad : Addr) (k c : Nat) (hk : k = m.length) (hx : a.eval x = .slice (some ad) k c) (hc : ∀ j u, (ecs m)[j]? = some u → w.cell? (ad.add j) = some u) (hlen : l.length + m.length ≤ 100000) (hbase : base ≤ w.heap.size)
    (h : ∀ v' w', w'.ownsRow base tE 10 v' (l ++ m).length (ecs (l ++ m)) → w.grownBy w' v.ownBlock → K (a.put o.dst v') w') :
    if Region.wanted o (yielded ops a.tmps) = true then Oper.wp Tryd.prog o a w K Q else E := by
  have hw : Region.wanted o (yielded ops a.tmps) = true := by simp [Region.wanted, hg]
  rw [if_pos hw]
  subst hk
  obtain ⟨i0, hi, hz0, hz1, hz2⟩ := infoP hT.info
  obtain ⟨v', w', hr, h2, h3, -, -⟩ := run_append_own_at (P := Tryd.prog) w base tS o.type tE i0 _ 10 56 hT.sl hi hz0 hz1 hz2 rfl (by decide) v l.length (ecs l) hown ad m.length c (ecs m) (ecs_len m) hc (ecs_one m) (by unfold maxLen; omega) (by omega) hbase
  unfold Oper.wp execOp
  simp only [hop, resolve, invoke, builtin, Sem.run_bind, Sem.run_pure, Result.andThen_ok, List.map_toArray, List.map_cons, List.map_nil, hs, hx, hr]
  rw [← ecs_app] at h2
  exact h v' w' (by rw [List.length_append]; exact h2) h3

set_option maxHeartbeats 16000000 in
set_option maxRecDepth 1000000 in
theorem step_3 {w0 w : World} {t : Nat} {most : Int} {l : List En} {ad : Option Addr} {cap : Nat} (h : PInv w0 w t most l ad cap) (hm : 1 ≤ most) (hm2 : most ≤ 64) (hF : Flds w0) (e : En) (he : e.ok) (n : Nat) (hn : n < l.length) :
    Calls Tryd.prog 9 #[.pointer (some ⟨t, 0, none⟩), .int .i64 most, .slice ad l.length cap, .agg #[.int .i64 3, .int .i64 (n : Int), .int .i64 e.aid, .int .u64 e.va, .int .i64 e.lv, .int .i64 e.k, .int .u64 e.o, .bool e.u, .bool e.r, .bool e.x, .bool e.s, .int .i64 e.a]] w fun r w' => ∃ l' ad' cap', r = .returned (.tuple #[.slice ad' l'.length cap', .bool true]) ∧ PInv w0 w' t most l' ad' cap' := by
  have HP := Hid.mk h
  have HF := Hid.mk hF
  obtain ⟨X, hBuf, hXlo, hnX⟩ := h.ex
  have hXlt : ∀ i, X i → i < w.heap.size := by obtain ⟨v, h1⟩ := hBuf; exact h1.lt
  have HBUF := Hid.mk hBuf
  have HXLO := Hid.mk hXlo
  have HNX := Hid.mk hnX
  have HXLT := Hid.mk hXlt
  have hlnI : (l.length : Int) ≤ 64 := by have := h.ln; omega
  have HLN : Hid (l.length ≤ 64) := by show _ ≤ _; omega
  have HMO := Hid.mk (And.intro hm hm2)
  have hLS := fun w1 => listed_c e w1
  have HDY : Hid (∀ W Y, Buf W Y t most l → Calls Tryd.prog 26 #[.pointer (some ⟨t, 0, none⟩), .int .i64 (n : Nat)] W fun r w' => r = .returned (.bool true) ∧ Buf w' Y t most (l.eraseIdx n) ∧ Turn Y W w') := fun W Y h1 => drop_yes h1 n hn (by have := HLN.out; omega)
  obtain ⟨g, o, hag, -, -⟩ := h.rl.rd n hn
  have hcp := h.rl.cp
  have hnI : (n : Int) < (l.length : Int) := by omega
  have nic : n ≤ cap := by omega
  have nil1 : n + 1 ≤ l.length := by omega
  have h0i : (0 : Int) ≤ (n : Int) + 1 := by omega
  have hnl : (n : Int) + 1 ≤ (l.length : Int) := by omega
  have hwr : IntKind.i64.wrap ((n : Int) + 1) = (n : Int) + 1 := by rw [IntKind.wrap_i64]; omega
  have hz : ¬ (n : Int) < 0 := by omega
  have dz : decide ((n : Int) < 0) = false := decide_eq_false hz
  have dn : decide (l.length ≤ n) = false := decide_eq_false (by omega)
  have HKT : Hid (∀ x ∈ l.eraseIdx n, rightE x = true) := fun x hx => h.rt x (List.mem_of_mem_eraseIdx hx)
  have HKL : Hid (((l.eraseIdx n).length : Int) ≤ most) := by
    have := h.ln
    have := List.length_eraseIdx_le l n
    show _ ≤ _
    omega
  have HED : Hid ((([] : List En) ++ l.take n) ++ l.drop (n + 1) = l.eraseIdx n) := by show _ = _; rw [List.nil_append, List.eraseIdx_eq_take_drop_succ]
  subst hag
  obtain ⟨A, hA, hsrc⟩ : ∃ A : Addr, (if cap = n + 1 then some (⟨g, o, none⟩ : Addr) else some ⟨g, o + (n + 1) * 10, none⟩) = some A ∧ Hid (∀ W, RdA W (some ⟨g, o, none⟩) l → ∀ j u, (ecs (l.drop (n + 1)))[j]? = some u → W.cell? (A.add j) = some u) := by
    by_cases h1 : cap = n + 1
    · refine ⟨⟨g, o, none⟩, by simp [h1], fun W _ j u hu => ?_⟩
      rw [List.drop_eq_nil_of_le (by omega)] at hu
      cases hu
    · exact ⟨⟨g, o + (n + 1) * 10, none⟩, by simp [h1], fun W hW => (hW.drop (n + 1)).cells⟩
  have HLD : Hid (l.length - (n + 1) = (l.drop (n + 1)).length) := (List.length_drop ..).symm
  have HLT : Hid (n = (l.take n).length) := by show _ = _; rw [List.length_take]; omega
  clear h hF hBuf hXlo hnX hXlt hm hm2
  obtain ⟨a0, a1, a2, a3, a4, a5, a6, a7, a8, a9⟩ := e
  simp only [En.v] at *
  go_enter Tryd.func9, Tryd.ntmps9
  go_wp2_with fail
  refine (hLS _).mono ?_
  rintro e w1 ⟨rfl, hb1⟩
  have K7 := Hid.mk (block_later (below_tr hb1 (below_new w1 (.cells #[.int .i64 a0, .int .u64 a1, .int .i64 a2, .int .i64 a3, .int .u64 a4, .bool a5, .bool a6, .bool a7, .bool a8, .int .i64 a9] 51))) (heap_alloc_new w (.cells #[.int .i64 3, .int .i64 (n : Int), .int .i64 a0, .int .u64 a1, .int .i64 a2, .int .i64 a3, .int .u64 a4, .bool a5, .bool a6, .bool a7, .bool a8, .int .i64 a9] 35)))
  have K10 := Hid.mk (heap_alloc_new w1 (.cells #[.int .i64 a0, .int .u64 a1, .int .i64 a2, .int .i64 a3, .int .u64 a4, .bool a5, .bool a6, .bool a7, .bool a8, .int .i64 a9] 51))
  have HB2 := Hid.mk (below_tr (below_tr (below_new w (.cells #[.int .i64 3, .int .i64 (n : Int), .int .i64 a0, .int .u64 a1, .int .i64 a2, .int .i64 a3, .int .u64 a4, .bool a5, .bool a6, .bool a7, .bool a8, .int .i64 a9] 35)) hb1) (below_new w1 (.cells #[.int .i64 a0, .int .u64 a1, .int .i64 a2, .int .i64 a3, .int .u64 a4, .bool a5, .bool a6, .bool a7, .bool a8, .int .i64 a9] 51)))
  have HXB : Hid (∀ i, X i → i ≠ w.heap.size ∧ i ≠ w1.heap.size) := fun i hi => by
    have := HXLT.out i hi
    have := (below_tr (below_new w (.cells #[.int .i64 3, .int .i64 (n : Int), .int .i64 a0, .int .u64 a1, .int .i64 a2, .int .i64 a3, .int .u64 a4, .bool a5, .bool a6, .bool a7, .bool a8, .int .i64 a9] 35)) hb1).size
    omega
  clear hb1
  go_upto_region 2 with fail
  generalize w1.alloc (.cells #[.int .i64 a0, .int .u64 a1, .int .i64 a2, .int .i64 a3, .int .u64 a4, .bool a5, .bool a6, .bool a7, .bool a8, .int .i64 a9] 51) = w2 at *
  generalize w1.heap.size = B10 at *
  obtain ⟨k0, k1, k2, k3, k4, k5, k6, k7, k8, k9, k10, k11⟩ := cells12 K7.out
  obtain ⟨q0, q1, q2, q3, q4, q5, q6, q7, q8, q9⟩ := cells10 K10.out
  have k1d := cell_later (Below.refl _ _).drew k1
  go_wp2_with fail
  refine wp_region_noPanic ?_
  refine wp_region_held_drew (S := (fun w' => w'.cell? ⟨w.heap.size, 1, none⟩ = some (.int .i64 (n : Int)))) (by kernel_rfl) ?_ (fun hHeld => ?_)
  · exact k1d
  refine take_at7 (i := 1) (v := ?_) 97 rfl rfl (by kernel_rfl) (by kernel_rfl) (by kernel_rfl) (fun _ _ _ h => h) (Or.inl ⟨by rfl, ?_⟩) (by assumption) ?_
  rotate_left
  · (intro w' hSw; (try dsimp only at hSw); go_simp; all_goals with_reducible rfl)
  try simp only [Act.put, List.setIfInBounds_toArray, List.set_cons_zero, List.set_cons_succ]
  refine take_at7 (i := 2) (v := ?_) 98 rfl rfl (by kernel_rfl) (by kernel_rfl) (by kernel_rfl) (fun _ _ _ h => h) (Or.inl ⟨by rfl, ?_⟩) (by assumption) ?_
  rotate_left
  · (intro w' hSw; (try dsimp only at hSw); go_simp; all_goals with_reducible rfl)
  try simp only [Act.put, List.setIfInBounds_toArray, List.set_cons_zero, List.set_cons_succ]
  refine take_at7 (i := 3) (v := ?_) 99 rfl rfl (by kernel_rfl) (by kernel_rfl) (by kernel_rfl) (fun _ _ _ h => h) (Or.inl ⟨by rfl, ?_⟩) (by assumption) ?_
  rotate_left
  · (intro w' hSw; (try dsimp only at hSw); go_simp; all_goals with_reducible rfl)
  try simp only [Act.put, List.setIfInBounds_toArray, List.set_cons_zero, List.set_cons_succ]
  refine take_at7 (i := 4) (v := ?_) 100 rfl rfl (by kernel_rfl) (by kernel_rfl) (by kernel_rfl) (fun _ _ _ h => h) (Or.inl ⟨by rfl, ?_⟩) (by assumption) ?_
  rotate_left
  · (intro w' hSw; (try dsimp only at hSw); go_simp; all_goals with_reducible rfl)
  try simp only [Act.put, List.setIfInBounds_toArray, List.set_cons_zero, List.set_cons_succ]
  refine take_at7 (i := 6) (v := ?_) 102 rfl rfl (by kernel_rfl) (by kernel_rfl) (by kernel_rfl) (fun _ _ _ h => h) (Or.inl ⟨by rfl, ?_⟩) (by assumption) ?_
  rotate_left
  · (intro w' hSw; (try dsimp only at hSw); go_simp; all_goals with_reducible rfl)
  try simp only [Act.put, List.setIfInBounds_toArray, List.set_cons_zero, List.set_cons_succ]
  refine take_at7 (i := 7) (v := ?_) 103 rfl rfl (by kernel_rfl) (by kernel_rfl) (by kernel_rfl) (fun _ _ _ h => h) (Or.inl ⟨by rfl, ?_⟩) (by assumption) ?_
  rotate_left
  · (intro w' hSw; (try dsimp only at hSw); go_simp; all_goals with_reducible rfl)
  try simp only [Act.put, List.setIfInBounds_toArray, List.set_cons_zero, List.set_cons_succ]
  refine take_at7 (i := 8) (v := ?_) 104 rfl rfl (by kernel_rfl) (by kernel_rfl) (by kernel_rfl) (fun _ _ _ h => h) (Or.inl ⟨by rfl, ?_⟩) (by assumption) ?_
  rotate_left
  · (intro w' hSw; (try dsimp only at hSw); go_simp; all_goals with_reducible rfl)
  try simp only [Act.put, List.setIfInBounds_toArray, List.set_cons_zero, List.set_cons_succ]
  refine take_at7 (i := 9) (v := ?_) 105 rfl rfl (by kernel_rfl) (by kernel_rfl) (by kernel_rfl) (fun _ _ _ h => h) (Or.inl ⟨by rfl, ?_⟩) (by assumption) ?_
  rotate_left
  · (intro w' hSw; (try dsimp only at hSw); go_simp; all_goals with_reducible rfl)
  try simp only [Act.put, List.setIfInBounds_toArray, List.set_cons_zero, List.set_cons_succ]
  refine take_at7 (i := 10) (v := ?_) 106 rfl rfl (by kernel_rfl) (by kernel_rfl) (by kernel_rfl) (fun _ _ _ h => h) (Or.inl ⟨by rfl, ?_⟩) (by assumption) ?_
  rotate_left
  · (intro w' hSw; (try dsimp only at hSw); go_simp; all_goals with_reducible rfl)
  try simp only [Act.put, List.setIfInBounds_toArray, List.set_cons_zero, List.set_cons_succ]
  refine take_at7 (i := 12) (v := ?_) 108 rfl rfl (by kernel_rfl) (by kernel_rfl) (by kernel_rfl) (fun _ _ _ h => h) (Or.inl ⟨by rfl, ?_⟩) (by assumption) ?_
  rotate_left
  · (intro w' hSw; (try dsimp only at hSw); go_simp; all_goals with_reducible rfl)
  try simp only [Act.put, List.setIfInBounds_toArray, List.set_cons_zero, List.set_cons_succ]
  refine take_at7 (i := 13) (v := ?_) 109 rfl rfl (by kernel_rfl) (by kernel_rfl) (by kernel_rfl) (fun _ _ _ h => h) (Or.inl ⟨by rfl, ?_⟩) (by assumption) ?_
  rotate_left
  · (intro w' hSw; (try dsimp only at hSw); go_simp; all_goals with_reducible rfl)
  try simp only [Act.put, List.setIfInBounds_toArray, List.set_cons_zero, List.set_cons_succ]
  refine take_at7 (i := 14) (v := ?_) 110 rfl rfl (by kernel_rfl) (by kernel_rfl) (by kernel_rfl) (fun _ _ _ h => h) (Or.inl ⟨by rfl, ?_⟩) (by assumption) ?_
  rotate_left
  · (intro w' hSw; (try dsimp only at hSw); go_simp; all_goals with_reducible rfl)
  try simp only [Act.put, List.setIfInBounds_toArray, List.set_cons_zero, List.set_cons_succ]
  refine wpAnyH_ready (rs := [0]) (by kernel_rfl) (by simp) ?_
  refine AllReadyH.cons rfl (fun K hK => ?_) AllReadyH.nil
  go_simp
  refine hK.out _ _ (cell_later (below_tr (below_new _ _) (Below.refl _ _).drew) k1) (fun hHeld1 => ?_)
  have HB3 := Hid.mk (below_tr HB2.out (below_tr (below_new w2 (.cells #[] 51)) (Below.refl _ _).drew))
  have HO3 : Hid (((w2.alloc (.cells #[] 51)).drew).ownsRow w2.heap.size 51 10 (.slice (some ⟨w2.heap.size, 0, none⟩) 0 0) ([] : List En).length (ecs [])) := own_later (own_new w2 51) (Below.refl _ _).drew
  have K7c := Hid.mk (block_later (below_tr (below_new w2 (.cells #[] 51)) (Below.refl _ _).drew) K7.out)
  clear hK hHeld
  generalize hw3 : (w2.alloc (.cells #[] 51)).drew = w3 at *
  have HSZ : Hid (w2.heap.size ≤ w3.heap.size) := by rw [← hw3]; exact (below_tr (below_new w2 (.cells #[] 51)) (Below.refl _ _).drew).size
  clear hw3
  try simp only [Act.put, List.setIfInBounds_toArray, List.set_cons_zero, List.set_cons_succ]
  refine wpAnyH_ready (rs := [5]) (by kernel_rfl) (by simp) ?_
  refine AllReadyH.cons rfl (fun K hK => ?_) AllReadyH.nil
  refine step_appV etyR w3 rfl _ _ rfl w2.heap.size (.slice (some ⟨w2.heap.size, 0, none⟩) 0 0) [] rfl HO3.out (l.take n) ⟨g, o, none⟩ n cap HLT.out rfl (((HP.out.rl.rd.later HB3.out).take n).cells) (by have := HLN.out; rw [List.length_take]; simp; omega) HSZ.out ?_
  intro v4 w4 ho4 hg4
  have HO4 := Hid.mk ho4
  have hlt7 : w.heap.size < w2.heap.size := block_lt K7.out
  have K7d := Hid.mk (block_app (b := w2.heap.size) hg4 K7c.out (fun q hq => by cases hq; exact Nat.le_refl _) hlt7)
  have HB4 := Hid.mk (HB3.out.grown hg4 HB3.out.size (fun q hq => by cases hq; exact HB2.out.size))
  have HS4 : Hid (w2.heap.size ≤ w4.heap.size) := Nat.le_trans HSZ.out hg4.size
  clear ho4 hg4 HO3
  refine hK.out _ _ (cells12 K7d.out).2.1 (fun hHeld2 => ?_)
  clear hK hHeld1
  try simp only [Act.put, List.setIfInBounds_toArray]
  refine wpAnyH_ready (rs := [11]) (by kernel_rfl) (by simp) ?_
  refine AllReadyH.cons rfl (fun K hK => ?_) AllReadyH.nil
  refine step_appV etyR w4 rfl _ _ rfl w2.heap.size v4 ([] ++ l.take n) rfl HO4.out (l.drop (n + 1)) A _ (cap - (n + 1)) HLD.out rfl (hsrc.out w4 (HP.out.rl.rd.later HB4.out)) (by have := HLN.out; rw [List.nil_append, List.length_take, List.length_drop]; omega) HS4.out ?_
  intro v5 w5 ho5 hg5
  have K7e := Hid.mk (block_app (b := w2.heap.size) hg5 K7d.out (fun q hq => (HO4.out.lt q hq).1) hlt7)
  have HB5 := Hid.mk (HB4.out.grown hg5 HB4.out.size (fun q hq => Nat.le_trans HB2.out.size (HO4.out.lt q hq).1))
  rw [HED.out] at ho5
  obtain ⟨ad', cap', rfl, hrl5, hfr5⟩ := own_rl ho5
  have HRL5 := Hid.mk hrl5
  have HN5 : Hid (notIn X ad') := fun a ha hx => by
    have h1 := (hfr5 a ha).1
    have h2 := HXLT.out _ hx
    omega
  clear ho5 hg5 hrl5 hfr5 HO4 hlt7
  refine hK.out _ _ (cells12 K7e.out).2.1 (fun hHeld3 => ?_)
  clear hK hHeld2
  try simp only [Act.put]
  refine wpAnyH_ready (rs := [15]) (by kernel_rfl) (by simp) ?_
  refine AllReadyH.cons rfl (fun K hK => ?_) AllReadyH.nil
  go_simp
  refine (HDY.out _ X (HBUF.out.later HB5.out)).mono ?_
  rintro e w6 ⟨rfl, hB6, ht6⟩
  go_wp2_with fail
  have HPN := Hid.mk (HP.out.next HXLO.out HB5.out HRL5.out HN5.out ht6 hB6 (Or.inl rfl) HKT.out HKL.out)
  refine hK.out _ _ (cells12 (block_x ht6 K7e.out (fun hx => (HXB.out _ hx).1 rfl))).2.1 (fun hHeld4 => ?_)
  clear hK hHeld3 hB6 ht6
  try simp only [Act.put, List.setIfInBounds_toArray, List.set_cons_zero, List.set_cons_succ]
  refine take_at7 (i := 16) (v := ?_) 8 rfl rfl (by kernel_rfl) (by kernel_rfl) (by kernel_rfl) (fun _ _ _ h => h) (Or.inl ⟨by rfl, ?_⟩) (by assumption) ?_
  rotate_left
  · (intro w' hSw; (try dsimp only at hSw); go_simp; all_goals with_reducible rfl)
  try simp only [Act.put, List.setIfInBounds_toArray, List.set_cons_zero, List.set_cons_succ]
  refine take_at7 (i := 17) (v := ?_) 9 rfl rfl (by kernel_rfl) (by kernel_rfl) (by kernel_rfl) (fun _ _ _ h => h) (Or.inl ⟨by rfl, ?_⟩) (by assumption) ?_
  rotate_left
  · (intro w' hSw; (try dsimp only at hSw); go_simp; all_goals with_reducible rfl)
  try simp only [Act.put, List.setIfInBounds_toArray, List.set_cons_zero, List.set_cons_succ]
  refine wpAnyH_done (by kernel_rfl) ?_ _
  refine NoPanic.normal ?_
  go_wp2
  go_ret2
  exact ⟨_, _, _, rfl, HPN.out⟩

end Go.Proofs.YthebhgllnjgjhaaDoor
