/- Rows of entries, fifth part: the walk of DeleteFunc. -/
import Derived.Test.YtdpcbdbdacjcbaaDoorTrE
namespace Go.Proofs.YtdpcbdbdacjcbaaDoor.TR
open Go.RowKit

theorem info_en : (Tryd.prog.info? 31).map (·.size) = some 4 := by kernel_rfl
theorem turn_b {w w1 w2 : World} {X : Nat → Prop} (h : Turn X w w1) (hb : Below w1.heap.size w1 w2) : Turn X w w2 := h.trans (turn_of_below (fun _ => False) hb) (fun _ _ h => absurd h id)
/-- The block of a value's row. -/
def OwnB (v : Value) : Nat → Prop := fun i => v.ownBlock = some i

set_option maxHeartbeats 8000000 in
set_option maxRecDepth 100000 in
theorem deleteFunc_row (q : Nat) (lb : Array Value) (eg : ∀ args w, (callFunc q args).run Tryd.prog w = .ok (.enter q args) w) (p : En → Bool) (l : List En) (g cap base : Nat) (rest : List Value) (w : World) (hn : l.length ≤ 1000) (hcap : l.length ≤ cap) (hcm : cap ≤ maxLen) (hbase : base ≤ g)
    (hg : w.heap[g]? = some (.cells (rowE l rest) 31 (0, 0))) (hs : (rowE l rest).size = cap * 4)
    (hp : ∀ W e, e ∈ l → Turn (fun i => i = g) w W → Calls Tryd.prog q (#[e.v] ++ lb) W fun r w' => r = .returned (.bool (p e)) ∧ Below W.heap.size W w') :
    Calls Tryd.prog 65 #[.slice (some ⟨g, 0, none⟩) l.length cap, .func (.func q) #[] lb] w fun r w' => r = .returned (.slice (some ⟨g, 0, none⟩) (l.filter (fun e => !p e)).length cap) ∧ w'.ownsRow base 31 4 (.slice (some ⟨g, 0, none⟩) (l.filter (fun e => !p e)).length cap) (l.filter (fun e => !p e)).length (ecs (l.filter (fun e => !p e))) ∧ Turn (fun i => i = g) w w' := by
  have hI := indexFunc_c q lb eg p l (some ⟨g, 0, none⟩) cap w hn (rowE_rd hg) (fun W e he hb => hp W e he (turn_of_below _ hb))
  have HG := Hid.mk hg
  have HP := Hid.mk hp
  have HS := Hid.mk hs
  have HC := Hid.mk (And.intro hcap (And.intro hcm hbase))
  have hnI : (l.length : Int) ≤ 1000 := by omega
  have hcI : (l.length : Int) ≤ (cap : Int) := by omega
  clear hg hp hs hcap hcm hbase hn
  go_enter Tryd.func65, Tryd.ntmps65
  go_wp2_with fail
  refine hI.mono ?_
  rintro e w1 ⟨⟨rfl, hno⟩ | ⟨k, hk, rfl, hno, hyes⟩, hb⟩
  · have HX : Hid (l.filter (fun e => !p e) = l) := List.filter_eq_self.2 fun e he => by
      obtain ⟨j, hj, rfl⟩ := List.getElem_of_mem he
      have := hno j hj
      rw [gE_pos l j hj] at this
      rw [this]; rfl
    have HB := Hid.mk hb
    clear hI hno hb
    go_wp2
    go_ret
    rw [HX.out]
    refine ⟨rfl, ⟨ecs_len l, Or.inr ⟨g, cap, _, rfl, HC.out.2.2, block_later HB.out HG.out, HC.out.1, HC.out.2.1, HS.out, ?_⟩⟩, turn_of_below _ HB.out⟩
    show (ecs l ++ rest).take (l.length * 4) = ecs l
    rw [← ecs_len, List.take_left]
  · have HB := Hid.mk hb
    have HI0 := Hid.mk (KInv.start hk hyes hno)
    have hkI : (k : Int) < l.length := by omega
    have HKL := Hid.mk hk
    clear hI hno hyes hb hk
    have hk1 : ¬ ((k : Int) = -1) := by omega
    go_wp2
    go_loopw [5, 6, 7] (fun s5 s6 _ wr => ∃ (i j : Nat) (dk : List En), s5 = .int .i64 (i : Nat) ∧ s6 = .int .i64 (j : Nat) ∧ j ≤ l.length ∧ KInv p l j i dk ∧ wr.heap[g]? = some (.cells (rowE dk rest) 31 (0, 0)) ∧ Turn (fun i => i = g) w wr) (fun _ s6 _ _ => l.length - (RowKit.intOf s6).toNat)
    case atStart => exact ⟨k, k + 1, l, rfl, by go_num, HKL.out, HI0.out, block_later HB.out HG.out, turn_of_below _ HB.out⟩
    case round =>
      obtain ⟨i, j, dk, rfl, rfl, hjl, hK, hgr, hT⟩ := hrel
      have HK := Hid.mk hK
      have HGR := Hid.mk hgr
      have HTU := Hid.mk hT
      have hij := hK.lt
      have hdl := hK.len
      by_cases hlt : j < l.length
      · have hlt2 : (j : Int) < l.length := by omega
        have HLT := Hid.mk hlt
        have hjb : (j : Int) < 1000 := by omega
        have hiI : (i : Int) < l.length := by omega
        have hib : (i : Int) < 1000 := by omega
        obtain ⟨g', o', e1, -, hc⟩ := rowE_rd hgr j (by omega)
        cases e1
        rw [hK.get hlt] at hc
        have d0 := hc 0 _ rfl
        have d1 := hc 1 _ rfl
        have d2 := hc 2 _ rfl
        have d3 := hc 3 _ rfl
        simp only [Nat.add_zero, Nat.zero_add] at d0 d1 d2 d3
        have HFIT : Hid (i * 4 + 4 ≤ (rowE dk rest).size) := by
          show _ ≤ _
          rw [List.size_toArray, List.length_append, ecs_len]; omega
        have HST := Hid.mk (rowE_set dk rest i (gE l j) (by omega))
        have HKP := Hid.mk (fun hp => hK.keep hlt hp)
        have HSK := Hid.mk (fun hp => hK.skip hlt hp)
        have HME := Hid.mk (gE_mem l j hlt)
        clear hK hgr hT hc hij hdl hlt hjl
        cases hpy : p (gE l j)
        · have HKK := Hid.mk (HKP.out hpy)
          have hcall := fun W hW => HP.out W (gE l j) HME.out hW
          rw [hpy] at hcall
          clear hpy HKP HSK HME
          generalize (gE l j) = y at *
          obtain ⟨b0, b1, b2, b3⟩ := y
          simp only [En.v, En.cs] at *
          have HCA := Hid.mk hcall
          clear hcall
          go_wp2_with fail
          refine (HCA.out _ (turn_b HTU.out (below_new _ _))).mono ?_
          rintro e w' ⟨rfl, hb'⟩
          have HB2 := Hid.mk (below_tr (below_new _ _) hb')
          have hK7 := block_later hb' (heap_alloc_new wr (.cells #[.int .i64 b0, .int .u64 b1, .int .i64 b2, .int .u64 b3] 31))
          obtain ⟨q0, q1, q2, q3⟩ := cells4 hK7
          clear hK7 hb' HCA d0 d1 d2 d3
          go_wp2_with (first
            | (refine wpList_store_segTo rfl 31 _ _ rfl rfl g (i * 4) _ #[.int .i64 b0, .int .u64 b1, .int .i64 b2, .int .u64 b3] rfl rfl rfl 31 _ (block_later HB2.out HGR.out) HFIT.out info_en (by simp [Value.oneCell']) _ HST.out ?_
               intro w8 hk8 ht8)
            | fail)
          go_roundw
          case rel => exact ⟨_, _, _, _, _, _, _, _, _, _, _, _, _, _, _, _, _, _, _, _, _, _, _, ⟨i + 1, j + 1, _, by go_num, by go_num, by have := HLT.out; omega, HKK.out, hk8, (turn_b HTU.out HB2.out).trans ht8 (fun _ _ h => h)⟩, rfl⟩
          case measure => have := HLT.out; simp [RowKit.intOf]; omega
        · have HKK := Hid.mk (HSK.out hpy)
          have hcall := fun W hW => HP.out W (gE l j) HME.out hW
          rw [hpy] at hcall
          clear hpy HKP HSK HST HME
          generalize (gE l j) = y at *
          obtain ⟨b0, b1, b2, b3⟩ := y
          simp only [En.v] at *
          have HCA := Hid.mk hcall
          clear hcall
          go_wp2_with fail
          refine (HCA.out _ (turn_b HTU.out (below_new _ _))).mono ?_
          rintro e w' ⟨rfl, hb'⟩
          have HB2 := Hid.mk (below_tr (below_new _ _) hb')
          clear hb' HCA d0 d1 d2 d3
          go_wp2
          go_roundw
          case rel => exact ⟨_, _, _, _, _, _, _, _, _, _, _, _, _, _, _, _, _, _, _, _, _, _, _, ⟨i, j + 1, dk, rfl, by go_num, by have := HLT.out; omega, HKK.out, block_later HB2.out HGR.out, turn_b HTU.out HB2.out⟩, rfl⟩
          case measure => have := HLT.out; simp [RowKit.intOf]; omega
      · obtain rfl : j = l.length := by omega
        have hlt2 : ¬ (l.length : Int) < l.length := by omega
        have hiI : (i : Int) < l.length := by omega
        have hin : i ≤ l.length := by omega
        have HIN := Hid.mk hij
        have hicap : (i : Int) ≤ (cap : Int) := by omega
        have HDN := Hid.mk hK.done
        have HDL := Hid.mk hdl
        have HSZ : Hid ((rowE dk rest).size = cap * 4) := by
          have := HS.out
          show _ = _
          rw [List.size_toArray, List.length_append, ecs_len] at this ⊢
          rw [hdl]; exact this
        clear hK hgr hT hdl hlt hjl hij
        go_wp2_with (first
          | (refine wpList_clearE _ rfl rfl _ rfl g (i * 4) (l.length - i) (cap - i) (by have := HIN.out; omega) rfl _ _ HGR.out (by rw [HSZ.out]; have := HC.out.1; have := HIN.out; omega) ?_
             intro w8 zs hzl hk8 ht8)
          | fail)
        go_ret
        have HO := own_kept HC.out.2.2 hin HC.out.1 HC.out.2.1 HDL.out HSZ.out hzl hk8
        rw [HDN.out.1] at HO
        rw [← HDN.out.2] at HO ⊢
        exact ⟨rfl, HO, HTU.out.trans ht8 (fun _ _ h => h)⟩

end Go.Proofs.YtdpcbdbdacjcbaaDoor.TR
