/- Rows of entries, sixth part: the walk of Delete of one entry. -/
import Derived.Test.YtdpcbdbdacjcbaaDoorTrF
namespace Go.Proofs.YtdpcbdbdacjcbaaDoor.TR
open Go.RowKit

/-- Entries appended in place, as one step of a region that draws. -/
theorem step_roomE {ops : Array Oper} {o : Oper} {a : Act} {Q : Exit → Act → World → Prop} {K : Act → World → Prop} {E : Prop} (w : World) (hgd : o.guard = none) (s x : Operand) (hop : o.op = .call { callee := .builtin .append, args := #[s, x], argTypes := #[37, 37] })
    (g n cap : Nat) (hs : a.eval s = .slice (some ⟨g, 0, none⟩) n cap) (cur : Array Value) (hg : w.heap[g]? = some (.cells cur 31 (0, 0))) (m : List En) (ad : Addr) (k c : Nat) (hk : k = m.length) (hx : a.eval x = .slice (some ad) k c) (hc : ∀ j u, (ecs m)[j]? = some u → w.cell? (ad.add j) = some u) (M : Nat) (hM : n + k = M) (hroom : M ≤ cap) (hfit : M * 4 ≤ cur.size)
    (h : ∀ wq, wq.heap[g]? = some (.cells (segA cur (n * 4) (ecs m)) 31 (0, 0)) → Turn (fun i => i = g) w wq → K (a.put o.dst (.slice (some ⟨g, 0, none⟩) M cap)) wq) :
    if Region.wanted o (yielded ops a.tmps) = true then Oper.wp Tryd.prog o a w K Q else E := by
  have hw : Region.wanted o (yielded ops a.tmps) = true := by simp [Region.wanted, hgd]
  rw [if_pos hw]
  subst hk hM
  obtain ⟨i0, hi, hz0, hz1, hz2⟩ := infoP etyT.info
  have hrun := run_append_room (P := Tryd.prog) w 37 o.type 31 i0 etyT.sl hi g n cap cur hg ad m.length c (ecs m) (by rw [hz1, ecs_len]) hc (ecs_one m) hroom (by rw [hz1, ecs_len]; omega)
  rw [hz1] at hrun
  unfold Oper.wp execOp
  simp only [hop, resolve, invoke, builtin, Sem.run_bind, Sem.run_pure, Result.andThen_ok, List.map_toArray, List.map_cons, List.map_nil, hs, hx, hrun]
  exact h _ (setRow_heap _ _ _ _ _ _ hg) (turn_setRow _ _ _)
theorem seg_size (cur : Array Value) (o : Nat) (vs : List Value) (h : o + vs.length ≤ cur.size) : (segA cur o vs).size = cur.size := by
  unfold segA
  rw [List.size_toArray, List.length_append, List.length_append, List.length_take, List.length_drop, Array.length_toList]
  omega
theorem seg_take (cur : Array Value) (o : Nat) (vs : List Value) (h : o + vs.length ≤ cur.size) : (segA cur o vs).toList.take (o + vs.length) = cur.toList.take o ++ vs := by
  unfold segA
  simp only
  have : (cur.toList.take o ++ vs).length = o + vs.length := by rw [List.length_append, List.length_take, Array.length_toList]; omega
  rw [← this, List.take_left]
theorem seg_take0 (cur : Array Value) (o : Nat) (vs : List Value) (h : o + vs.length ≤ cur.size) : (segA cur o vs).toList.take o = cur.toList.take o := by
  unfold segA
  simp only
  rw [List.append_assoc, List.take_append_of_le_length (by rw [List.length_take, Array.length_toList]; omega), List.take_take, Nat.min_self]
theorem own_erased {w : World} {base g : Nat} {t : TypeId} {cap i : Nat} {l : List En} {rest zs : List Value} (hb : base ≤ g) (hi : i < l.length) (hn : l.length ≤ cap) (hcap : cap ≤ maxLen) (hs : (rowE l rest).size = cap * 4) (hz : zs.length = 4)
    (h : w.heap[g]? = some (.cells (segA (segA (rowE l rest) (i * 4) (ecs (l.drop (i + 1)))) ((l.length - 1) * 4) zs) t (0, 0))) : w.ownsRow base t 4 (.slice (some ⟨g, 0, none⟩) (l.length - 1) cap) (l.eraseIdx i).length (ecs (l.eraseIdx i)) := by
  have hl : (l.eraseIdx i).length = l.length - 1 := List.length_eraseIdx_of_lt hi
  have hd : (ecs (l.drop (i + 1))).length = (l.length - (i + 1)) * 4 := by rw [ecs_len, List.length_drop]
  have h1 := seg_size (rowE l rest) (i * 4) (ecs (l.drop (i + 1))) (by rw [hd, hs]; omega)
  have h2 := seg_size (segA (rowE l rest) (i * 4) (ecs (l.drop (i + 1)))) ((l.length - 1) * 4) zs (by rw [h1, hs, hz]; omega)
  refine ⟨by rw [ecs_len], Or.inr ⟨g, cap, _, by rw [hl], hb, h, by omega, hcap, by rw [h2, h1, hs], ?_⟩⟩
  rw [hl, seg_take0 _ _ _ (by rw [h1, hs, hz]; omega), show (l.length - 1) * 4 = i * 4 + (ecs (l.drop (i + 1))).length by rw [hd]; omega, seg_take _ _ _ (by rw [hd, hs]; omega)]
  show (ecs l ++ rest).take (i * 4) ++ _ = _
  rw [List.take_append_of_le_length (by rw [ecs_len]; omega), ecs_take, ← ecs_app, List.eraseIdx_eq_take_drop_succ]

set_option maxHeartbeats 8000000 in
set_option maxRecDepth 100000 in
theorem delete_row (l : List En) (i g cap base : Nat) (rest : List Value) (w : World) (hn : l.length ≤ 1000) (hi : i < l.length) (hcap : l.length ≤ cap) (hcm : cap ≤ maxLen) (hbase : base ≤ g)
    (hg : w.heap[g]? = some (.cells (rowE l rest) 31 (0, 0))) (hs : (rowE l rest).size = cap * 4) :
    Calls Tryd.prog 44 #[.slice (some ⟨g, 0, none⟩) l.length cap, .int .i64 (i : Nat), .int .i64 ((i : Int) + 1)] w fun r w' => r = .returned (.slice (some ⟨g, 0, none⟩) (l.length - 1) cap) ∧ w'.ownsRow base 31 4 (.slice (some ⟨g, 0, none⟩) (l.length - 1) cap) (l.eraseIdx i).length (ecs (l.eraseIdx i)) ∧ Turn (fun i => i = g) w w' := by
  have HG := Hid.mk hg
  have HS := Hid.mk hs
  have HC := Hid.mk (And.intro hcap (And.intro hcm hbase))
  have HI := Hid.mk hi
  have hnI : (l.length : Int) ≤ 1000 := by omega
  have hcI : (l.length : Int) ≤ (cap : Int) := by omega
  have hiI : (i : Int) < (l.length : Int) := by omega
  have hi1 : (i : Int) + 1 ≤ (l.length : Int) := by omega
  have hic : (i : Int) + 1 ≤ (cap : Int) := by omega
  have hm : (cap : Int) ≤ 9223372036854775807 := by unfold maxLen at hcm; omega
  obtain ⟨M, hM⟩ : ∃ M, M = l.length - 1 := ⟨_, rfl⟩
  have HM := Hid.mk hM
  have hMi : (M : Int) < (l.length : Int) := by omega
  have hMc : (M : Int) ≤ (cap : Int) := by omega
  have hMn : i + (l.length - (i + 1)) = M := by omega
  have hMcap : M ≤ cap := by omega
  have HFIT : Hid (M * 4 ≤ (rowE l rest).size) := by show _ ≤ _; rw [hs]; omega
  have HSZ := Hid.mk (seg_size (rowE l rest) (i * 4) (ecs (l.drop (i + 1))) (by rw [ecs_len, List.length_drop, hs]; omega))
  have HML : Hid (l.length - M = 1) := by show _ = _; omega
  rw [← hM]
  clear hg hs hcap hcm hbase hn hi hM
  have hRD := (rowE_rd HG.out).drop (i + 1)
  rw [Nat.zero_add] at hRD
  have HN : Hid (l.length - (i + 1) = (l.drop (i + 1)).length) := (List.length_drop ..).symm
  have HRD := Hid.mk hRD
  clear hRD
  obtain ⟨A, hA, hsrc⟩ : ∃ A : Addr, (if cap = i + 1 then some (⟨g, 0, none⟩ : Addr) else some ⟨g, (i + 1) * 4, none⟩) = some A ∧ Hid (∀ j u, (ecs (l.drop (i + 1)))[j]? = some u → w.cell? (A.add j) = some u) := by
    by_cases h : cap = i + 1
    · refine ⟨⟨g, 0, none⟩, by simp [h], fun j u hu => ?_⟩
      rw [List.drop_eq_nil_of_le (by omega)] at hu
      cases hu
    · exact ⟨⟨g, (i + 1) * 4, none⟩, by simp [h], HRD.out.cells⟩
  have nic : i ≤ cap := by omega
  have nil1 : i + 1 ≤ l.length := by omega
  have nic1 : i + 1 ≤ cap := by omega
  have h0i : (0 : Int) ≤ (i : Int) + 1 := by omega
  clear HRD
  go_enter Tryd.func44, Tryd.ntmps44
  go_wp2
  go_region_law
    ((refine step_roomE _ rfl _ _ rfl g i cap rfl _ (block_later (Below.refl _ _).drew HG.out) (l.drop (i + 1)) A _ (cap - (i + 1)) HN.out (by rfl) (fun j u hu => cell_later (Below.refl _ _).drew (hsrc.out j u hu)) M hMn hMcap HFIT.out ?_
      intro w2 hk2 ht2
      have HK2 := Hid.mk hk2
      have HT2 := Hid.mk ht2
      clear hk2 ht2))
  have hMl : M ≤ l.length := by omega
  have hMne : ¬ (cap = M) := by omega
  clear hA hsrc hMn nil1 nic1 nic
  go_wp2_with (first
    | (refine wpList_clearE _ rfl rfl _ rfl g (M * 4) (l.length - M) (cap - M) (by have := HML.out; omega) rfl _ _ HK2.out (by rw [HSZ.out, HML.out]; have := HFIT.out; have := HS.out; have := HM.out; have := HC.out.1; have := HI.out; omega) ?_
       intro w8 zs hzl hk8 ht8)
    | fail)
  go_ret
  rw [HML.out, Nat.one_mul] at hzl
  have hk9 := hk8
  rw [HM.out] at hk9
  have HO := own_erased HC.out.2.2 HI.out HC.out.1 HC.out.2.1 HS.out hzl hk9
  rw [← HM.out] at HO
  exact ⟨rfl, HO, ((turn_of_below _ (Below.refl _ _).drew).trans HT2.out (fun _ _ h => h)).trans ht8 (fun _ _ h => h)⟩

end Go.Proofs.YtdpcbdbdacjcbaaDoor.TR
