/- Plays of a buffer and of the document's list beside it: what holds between steps; lists' facts. -/
import Derived.Test.YtdpcbdbdacjcbaaDoorTrV
import Derived.Test.YtdpcbdbdacjcbaaDoorTrJ
import Derived.Test.YtdpcbdbdacjcbaaDoorTrK
import Derived.Test.YtdpcbdbdacjcbaaDoorTrR
import Derived.Test.YtdpcbdbdacjcbaaDoorTrW
import Derived.Test.YtdpcbdbdacjcbaaDoorRefDescE
import Derived.Test.YtdpcbdbdacjcbaaDoorTrL

/- The document's lists of marks: the walks of portreeveref08's Flush. -/
namespace Go.Proofs.YtdpcbdbdacjcbaaDoor.TR
open Go.RowKit

theorem info_er : (Tryd.prog.info? 39).map (·.size) = some 4 := by kernel_rfl

set_option maxHeartbeats 16000000 in
set_option maxRecDepth 100000 in
theorem rflush_va {w : World} (l : List En) (ad : Option Addr) (cap : Nat) (hr : RdA w ad l) (hlv : ∀ e ∈ l, 1 ≤ e.lv ∧ e.lv ≤ 3) (hn : l.length ≤ 900) (i0 : Int) (x : Nat) (hx : x < 18446744073709551616) :
    Calls Tryd.prog 25 #[.slice ad l.length cap, .int .i64 i0, .bool true, .int .u64 x] w fun r w' => ∃ ad' cap', r = .returned (.slice ad' (keepP (fun e => mB e i0 x) l).length cap') ∧ RLst w' ad' cap' (keepP (fun e => mB e i0 x) l) ∧ (∀ b, ad' = some b → w.heap.size ≤ b.block) ∧ Below w.heap.size w w' := by
  have HR := Hid.mk hr
  have HM : Hid (∀ i, i < l.length → ∀ w1, Calls Tryd.prog 42 #[(gE l i).v, .int .i64 i0, .int .u64 x] w1 fun r w' => r = .returned (.bool (mB (gE l i) i0 x)) ∧ Below w1.heap.size w1 w') := fun i hi w1 => rleads_any (gE l i) (hlv _ (gE_mem l i hi)).1 (hlv _ (gE_mem l i hi)).2 i0 x hx w1
  have HKY : Hid (∀ i, i < l.length → mB (gE l i) i0 x = true → keepP (fun e => mB e i0 x) (l.take (i + 1)) = keepP (fun e => mB e i0 x) (l.take i)) := fun i hi h => by
    unfold keepP
    rw [take_succ_g l i hi, List.filter_append, filt0 (p := (fun e => mB e i0 x)) h, List.append_nil]
  have HKN : Hid (∀ i, i < l.length → mB (gE l i) i0 x = false → keepP (fun e => mB e i0 x) (l.take (i + 1)) = keepP (fun e => mB e i0 x) (l.take i) ++ [(gE l i)]) := fun i hi h => by
    unfold keepP
    rw [take_succ_g l i hi, List.filter_append, filt1 (p := (fun e => mB e i0 x)) h]
  have HKL : Hid (∀ i, i ≤ l.length → (keepP (fun e => mB e i0 x) (l.take i)).length ≤ 900) := fun i hi => by
    have := keep_le (fun e => mB e i0 x) (l.take i)
    rw [List.length_take] at this
    omega
  have HKA : Hid (keepP (fun e => mB e i0 x) (l.take l.length) = keepP (fun e => mB e i0 x) l ∧ keepP (fun e => mB e i0 x) (l.take 0) = []) := ⟨by rw [List.take_length], rfl⟩
  have hnI : (l.length : Int) ≤ 900 := by omega
  obtain ⟨KP, hKP⟩ : ∃ KP : Nat → List En, KP = fun i => keepP (fun e => mB e i0 x) (l.take i) := ⟨_, rfl⟩
  have eK : ∀ i, keepP (fun e => mB e i0 x) (l.take i) = KP i := fun i => by rw [hKP]
  simp only [eK] at HKY HKN HKL HKA
  generalize keepP (fun e => mB e i0 x) l = KL at *
  clear hKP eK hr hn
  clear hlv hx
  go_enter Tryd.func25, Tryd.ntmps25
  go_wp2
  go_loopw [9, 10, 11] (fun s9 s10 _ wr => ∃ (i : Nat) (v : Value), i ≤ l.length ∧ s10 = .int .i64 (i : Nat) ∧ v = s9 ∧ Below w.heap.size w wr ∧ wr.ownsRow w.heap.size 39 4 v (KP i).length (ecs (KP i))) (fun _ s10 _ _ => l.length - (RowKit.intOf s10).toNat)
  case atStart =>
    refine ⟨0, _, by omega, rfl, rfl, Below.refl _ _, ?_⟩
    rw [HKA.out.2]
    exact World.ownsRow_nil _ _ _ _
  case round =>
    obtain ⟨i, v, hi, rfl, rfl, hb, hown⟩ := hrel
    have HB := Hid.mk hb
    have HO := Hid.mk hown
    have HKLi := Hid.mk (HKL.out i hi)
    clear hown
    by_cases hlt : i < l.length
    · have hlt2 : (i : Int) < l.length := by omega
      have HLT := Hid.mk hlt
      have hib : (i : Int) < 1000 := by omega
      obtain ⟨g, o, rfl, hg, hc⟩ := HR.out i hlt
      have HC := Hid.mk hc
      have d0 := cell_later hb (hc 0 _ rfl)
      have d1 := cell_later hb (hc 1 _ rfl)
      have d2 := cell_later hb (hc 2 _ rfl)
      have d3 := cell_later hb (hc 3 _ rfl)
      rw [Nat.add_zero] at d0
      have HYi := Hid.mk (HKY.out i hlt)
      have HNi := Hid.mk (HKN.out i hlt)
      have hcall := HM.out i hlt
      by_cases hz : i0 < 0
      · have dz : decide (i0 < 0) = true := decide_eq_true hz
        cases hpy : mB (gE l i) i0 x
        · rw [hpy] at hcall
          have HN2 := Hid.mk (HNi.out hpy)
          clear hpy HYi HNi hc hb hi hlt hg
          generalize (gE l i) = y at *
          obtain ⟨b0, b1, b2, b3⟩ := y
          simp only [En.v, En.cs] at *
          go_wp2_with fail
          refine (hcall _).mono ?_
          rintro e w' ⟨rfl, hb'⟩
          have HBq := Hid.mk hb'
          clear hcall d0 d1 d2 d3 hb'
          have hb := below_tr HB.out HBq.out
          have hc := HC.out
          have d0 := cell_later hb (hc 0 _ rfl)
          have d1 := cell_later hb (hc 1 _ rfl)
          have d2 := cell_later hb (hc 2 _ rfl)
          have d3 := cell_later hb (hc 3 _ rfl)
          rw [Nat.add_zero] at d0
          have HOq := Hid.mk (own_later HO.out HBq.out)
          have HBB := Hid.mk hb
          clear hb hc
          go_wp2_with (first
            | (at_builtin
               refine wpList_appE etyR _ rfl _ _ rfl w.heap.size v (KP i) rfl ((World.ownsRow.alloc HOq.out _)) [⟨b0, b1, b2, b3⟩] ⟨w'.heap.size, 0, none⟩ 1 rfl (fun j u hu => World.news_of_block (cs := #[.int .i64 b0, .int .u64 b1, .int .i64 b2, .int .u64 b3]) (t := 39) (fr := (0, 0)) (heap_alloc_new w' _) j u hu) Nat.zero_lt_one (by have := HKLi.out; show (KP i).length + 1 ≤ 100000; omega) (by have := HBB.out.size; simp; omega) _ rfl ?_
               intro g2 cap2 w4 hown4 hgrow hat hlt4
               have HO4 := Hid.mk hown4
               have HG4 := Hid.mk hgrow
               clear hown4 hgrow hat hlt4)
            | fail)
          go_roundw
          case rel =>
            refine ⟨i + 1, _, by have := HLT.out; omega, by go_num, rfl, below_app HBB.out (below_new w' _) HOq.out (Nat.le_refl _) HG4.out, ?_⟩
            rw [HN2.out]
            exact HO4.out
          case measure => have := HLT.out; simp [RowKit.intOf]; omega
        · rw [hpy] at hcall
          have HY2 := Hid.mk (HYi.out hpy)
          clear hpy HYi HNi hc hb hi hlt hg
          generalize (gE l i) = y at *
          obtain ⟨b0, b1, b2, b3⟩ := y
          simp only [En.v, En.cs] at *
          go_wp2_with fail
          refine (hcall _).mono ?_
          rintro e w' ⟨rfl, hb'⟩
          have HBq := Hid.mk hb'
          clear hcall d0 d1 d2 d3 hb'
          go_wp2
          go_roundw
          case rel =>
            refine ⟨i + 1, _, by have := HLT.out; omega, by go_num, rfl, below_tr HB.out HBq.out, ?_⟩
            rw [HY2.out]
            exact own_later HO.out HBq.out
          case measure => have := HLT.out; simp [RowKit.intOf]; omega
      · have dz : decide (i0 < 0) = false := decide_eq_false hz
        cases hpy : mB (gE l i) i0 x
        · rw [hpy] at hcall
          have HN2 := Hid.mk (HNi.out hpy)
          clear hpy HYi HNi hc hb hi hlt hg
          generalize (gE l i) = y at *
          obtain ⟨b0, b1, b2, b3⟩ := y
          simp only [En.v, En.cs] at *
          go_wp2_with fail
          refine (hcall _).mono ?_
          rintro e w' ⟨rfl, hb'⟩
          have HBq := Hid.mk hb'
          clear hcall d0 d1 d2 d3 hb'
          have hb := below_tr HB.out HBq.out
          have hc := HC.out
          have d0 := cell_later hb (hc 0 _ rfl)
          have d1 := cell_later hb (hc 1 _ rfl)
          have d2 := cell_later hb (hc 2 _ rfl)
          have d3 := cell_later hb (hc 3 _ rfl)
          rw [Nat.add_zero] at d0
          have HOq := Hid.mk (own_later HO.out HBq.out)
          have HBB := Hid.mk hb
          clear hb hc
          go_wp2_with (first
            | (at_builtin
               refine wpList_appE etyR _ rfl _ _ rfl w.heap.size v (KP i) rfl ((World.ownsRow.alloc HOq.out _)) [⟨b0, b1, b2, b3⟩] ⟨w'.heap.size, 0, none⟩ 1 rfl (fun j u hu => World.news_of_block (cs := #[.int .i64 b0, .int .u64 b1, .int .i64 b2, .int .u64 b3]) (t := 39) (fr := (0, 0)) (heap_alloc_new w' _) j u hu) Nat.zero_lt_one (by have := HKLi.out; show (KP i).length + 1 ≤ 100000; omega) (by have := HBB.out.size; simp; omega) _ rfl ?_
               intro g2 cap2 w4 hown4 hgrow hat hlt4
               have HO4 := Hid.mk hown4
               have HG4 := Hid.mk hgrow
               clear hown4 hgrow hat hlt4)
            | fail)
          go_roundw
          case rel =>
            refine ⟨i + 1, _, by have := HLT.out; omega, by go_num, rfl, below_app HBB.out (below_new w' _) HOq.out (Nat.le_refl _) HG4.out, ?_⟩
            rw [HN2.out]
            exact HO4.out
          case measure => have := HLT.out; simp [RowKit.intOf]; omega
        · rw [hpy] at hcall
          have HY2 := Hid.mk (HYi.out hpy)
          clear hpy HYi HNi hc hb hi hlt hg
          generalize (gE l i) = y at *
          obtain ⟨b0, b1, b2, b3⟩ := y
          simp only [En.v, En.cs] at *
          go_wp2_with fail
          refine (hcall _).mono ?_
          rintro e w' ⟨rfl, hb'⟩
          have HBq := Hid.mk hb'
          clear hcall d0 d1 d2 d3 hb'
          go_wp2
          go_roundw
          case rel =>
            refine ⟨i + 1, _, by have := HLT.out; omega, by go_num, rfl, below_tr HB.out HBq.out, ?_⟩
            rw [HY2.out]
            exact own_later HO.out HBq.out
          case measure => have := HLT.out; simp [RowKit.intOf]; omega
    · have hlt2 : ¬ (i : Int) < l.length := by omega
      obtain rfl : i = l.length := by omega
      have HO2 := HO.out
      rw [HKA.out.1] at HO2
      obtain ⟨ad', cap', rfl, h1, h2⟩ := own_rl HO2
      have H1 := Hid.mk h1
      have H2 := Hid.mk h2
      clear hlt hi hb h1 h2 HO HO2
      go_wp2
      go_ret
      exact ⟨_, _, rfl, H1.out, fun b hb => (H2.out b hb).1, HB.out⟩

set_option maxHeartbeats 16000000 in
set_option maxRecDepth 100000 in
theorem rflush_as {w : World} (l : List En) (ad : Option Addr) (cap : Nat) (hr : RdA w ad l) (hn : l.length ≤ 900) (i0 : Int) (h0 : 0 ≤ i0) :
    Calls Tryd.prog 25 #[.slice ad l.length cap, .int .i64 i0, .bool false, .int .u64 0] w fun r w' => ∃ ad' cap', r = .returned (.slice ad' (keepP (fun e => decide (e.aid = i0)) l).length cap') ∧ RLst w' ad' cap' (keepP (fun e => decide (e.aid = i0)) l) ∧ (∀ b, ad' = some b → w.heap.size ≤ b.block) ∧ Below w.heap.size w w' := by
  have HR := Hid.mk hr
  have HKY : Hid (∀ i, i < l.length → decide ((gE l i).aid = i0) = true → keepP (fun e => decide (e.aid = i0)) (l.take (i + 1)) = keepP (fun e => decide (e.aid = i0)) (l.take i)) := fun i hi h => by
    unfold keepP
    rw [take_succ_g l i hi, List.filter_append, filt0 (p := (fun e => decide (e.aid = i0))) h, List.append_nil]
  have HKN : Hid (∀ i, i < l.length → decide ((gE l i).aid = i0) = false → keepP (fun e => decide (e.aid = i0)) (l.take (i + 1)) = keepP (fun e => decide (e.aid = i0)) (l.take i) ++ [(gE l i)]) := fun i hi h => by
    unfold keepP
    rw [take_succ_g l i hi, List.filter_append, filt1 (p := (fun e => decide (e.aid = i0))) h]
  have HKL : Hid (∀ i, i ≤ l.length → (keepP (fun e => decide (e.aid = i0)) (l.take i)).length ≤ 900) := fun i hi => by
    have := keep_le (fun e => decide (e.aid = i0)) (l.take i)
    rw [List.length_take] at this
    omega
  have HKA : Hid (keepP (fun e => decide (e.aid = i0)) (l.take l.length) = keepP (fun e => decide (e.aid = i0)) l ∧ keepP (fun e => decide (e.aid = i0)) (l.take 0) = []) := ⟨by rw [List.take_length], rfl⟩
  have hnI : (l.length : Int) ≤ 900 := by omega
  obtain ⟨KP, hKP⟩ : ∃ KP : Nat → List En, KP = fun i => keepP (fun e => decide (e.aid = i0)) (l.take i) := ⟨_, rfl⟩
  have eK : ∀ i, keepP (fun e => decide (e.aid = i0)) (l.take i) = KP i := fun i => by rw [hKP]
  simp only [eK] at HKY HKN HKL HKA
  generalize keepP (fun e => decide (e.aid = i0)) l = KL at *
  clear hKP eK hr hn
  have dz : decide (i0 < 0) = false := decide_eq_false (by omega)
  go_enter Tryd.func25, Tryd.ntmps25
  go_wp2
  go_loopw [9, 10, 11] (fun s9 s10 _ wr => ∃ (i : Nat) (v : Value), i ≤ l.length ∧ s10 = .int .i64 (i : Nat) ∧ v = s9 ∧ Below w.heap.size w wr ∧ wr.ownsRow w.heap.size 39 4 v (KP i).length (ecs (KP i))) (fun _ s10 _ _ => l.length - (RowKit.intOf s10).toNat)
  case atStart =>
    refine ⟨0, _, by omega, rfl, rfl, Below.refl _ _, ?_⟩
    rw [HKA.out.2]
    exact World.ownsRow_nil _ _ _ _
  case round =>
    obtain ⟨i, v, hi, rfl, rfl, hb, hown⟩ := hrel
    have HB := Hid.mk hb
    have HO := Hid.mk hown
    have HKLi := Hid.mk (HKL.out i hi)
    clear hown
    by_cases hlt : i < l.length
    · have hlt2 : (i : Int) < l.length := by omega
      have HLT := Hid.mk hlt
      have hib : (i : Int) < 1000 := by omega
      obtain ⟨g, o, rfl, hg, hc⟩ := HR.out i hlt
      have HC := Hid.mk hc
      have d0 := cell_later hb (hc 0 _ rfl)
      have d1 := cell_later hb (hc 1 _ rfl)
      have d2 := cell_later hb (hc 2 _ rfl)
      have d3 := cell_later hb (hc 3 _ rfl)
      rw [Nat.add_zero] at d0
      have HYi := Hid.mk (HKY.out i hlt)
      have HNi := Hid.mk (HKN.out i hlt)
      by_cases hpy : (gE l i).aid = i0
      · have HY2 := Hid.mk (HYi.out (decide_eq_true hpy))
        clear HYi HNi hc hb hi hlt hg
        generalize (gE l i) = y at *
        obtain ⟨b0, b1, b2, b3⟩ := y
        simp only at *
        have dq : (b0 == i0) = true := by rw [beq_iff_eq]; exact hpy
        clear hpy
        go_wp2
        go_roundw
        case rel =>
          refine ⟨i + 1, _, by have := HLT.out; omega, by go_num, rfl, HB.out, ?_⟩
          rw [HY2.out]
          exact HO.out
        case measure => have := HLT.out; simp [RowKit.intOf]; omega
      · have HN2 := Hid.mk (HNi.out (decide_eq_false hpy))
        have HOq := Hid.mk HO.out
        clear HYi HNi hc hb hi hlt hg
        generalize (gE l i) = y at *
        obtain ⟨b0, b1, b2, b3⟩ := y
        simp only at *
        have dq : (b0 == i0) = false := by rw [beq_eq_false_iff_ne]; exact hpy
        clear hpy
        go_wp2_with (first
          | (at_builtin
             refine wpList_appE etyR _ rfl _ _ rfl w.heap.size v (KP i) rfl ((World.ownsRow.alloc HOq.out _)) [⟨b0, b1, b2, b3⟩] ⟨wr.heap.size, 0, none⟩ 1 rfl (fun j u hu => World.news_of_block (cs := #[.int .i64 b0, .int .u64 b1, .int .i64 b2, .int .u64 b3]) (t := 39) (fr := (0, 0)) (heap_alloc_new wr _) j u hu) Nat.zero_lt_one (by have := HKLi.out; show (KP i).length + 1 ≤ 100000; omega) (by have := HB.out.size; simp; omega) _ rfl ?_
             intro g2 cap2 w4 hown4 hgrow hat hlt4
             have HO4 := Hid.mk hown4
             have HG4 := Hid.mk hgrow
             clear hown4 hgrow hat hlt4)
          | fail)
        go_roundw
        case rel =>
          refine ⟨i + 1, _, by have := HLT.out; omega, by go_num, rfl, below_app HB.out (below_new wr _) HOq.out (Nat.le_refl _) HG4.out, ?_⟩
          rw [HN2.out]
          exact HO4.out
        case measure => have := HLT.out; simp [RowKit.intOf]; omega
    · have hlt2 : ¬ (i : Int) < l.length := by omega
      obtain rfl : i = l.length := by omega
      have HO2 := HO.out
      rw [HKA.out.1] at HO2
      obtain ⟨ad', cap', rfl, h1, h2⟩ := own_rl HO2
      have H1 := Hid.mk h1
      have H2 := Hid.mk h2
      clear hlt hi hb h1 h2 HO HO2
      go_wp2
      go_ret
      exact ⟨_, _, rfl, H1.out, fun b hb => (H2.out b hb).1, HB.out⟩

end Go.Proofs.YtdpcbdbdacjcbaaDoor.TR

/- The document's lists of marks: the walk of portreeveref08's Best. -/
namespace Go.Proofs.YtdpcbdbdacjcbaaDoor.TR
open Go.RowKit

/-- b is the best of the first n: the last one of the greatest level; e0 if there is none. -/
def BestAt (p : En → Bool) (l : List En) (n : Nat) (b : En) : Prop :=
  (b = e0 ∧ ∀ j, j < n → p (gE l j) = false) ∨ ∃ j, j < n ∧ b = gE l j ∧ p (gE l j) = true ∧ ∀ k, k < n → p (gE l k) = true → (gE l k).lv < (gE l j).lv ∨ ((gE l k).lv = (gE l j).lv ∧ k ≤ j)
theorem best_one {p : En → Bool} {l : List En} {n : Nat} {b c : En} (h : BestAt p l n b) (k : BestAt p l n c) : b = c := by
  rcases h with ⟨rfl, h⟩ | ⟨j, hj, rfl, pj, h⟩
  · rcases k with ⟨rfl, k⟩ | ⟨i, hi, rfl, pi, k⟩
    · rfl
    · have := h i hi; rw [this] at pi; cases pi
  · rcases k with ⟨rfl, k⟩ | ⟨i, hi, rfl, pi, k⟩
    · have := k j hj; rw [this] at pj; cases pj
    · have h1 := h i hi pi
      have h2 := k j hj pj
      have : j = i := by omega
      rw [this]
theorem bst_best (p : En → Bool) (l : List En) (hlv : ∀ e ∈ l, 1 ≤ e.lv) : ∀ n, n ≤ l.length → BestAt p l n (bstI p l n)
  | 0, _ => Or.inl ⟨rfl, fun j hj => absurd hj (Nat.not_lt_zero _)⟩
  | n + 1, hn => by
    have ih := bst_best p l hlv n (by omega)
    cases hp : p (gE l n)
    · rw [bst_no hp]
      rcases ih with ⟨h1, h2⟩ | ⟨j, hj, h1, pj, h2⟩
      · refine Or.inl ⟨h1, fun j hj => ?_⟩
        by_cases h : j = n
        · subst h; exact hp
        · exact h2 j (by omega)
      · refine Or.inr ⟨j, by omega, h1, pj, fun k hk pk => ?_⟩
        by_cases h : k = n
        · subst h; rw [hp] at pk; cases pk
        · exact h2 k (by omega) pk
    · by_cases hle : (bstI p l n).lv ≤ (gE l n).lv
      · rw [bst_yes hp hle]
        refine Or.inr ⟨n, by omega, rfl, hp, fun k hk pk => ?_⟩
        by_cases h : k = n
        · subst h; exact Or.inr ⟨rfl, Nat.le_refl _⟩
        · rcases ih with ⟨h1, h2⟩ | ⟨j, hj, h1, pj, h2⟩
          · have := h2 k (by omega); rw [this] at pk; cases pk
          · rw [h1] at hle
            have := h2 k (by omega) pk
            omega
      · rw [bst_low hle]
        rcases ih with ⟨h1, h2⟩ | ⟨j, hj, h1, pj, h2⟩
        · rw [h1] at hle
          have h3 := hlv _ (gE_mem l n (by omega))
          exact absurd (show (0 : Int) ≤ _ by omega) hle
        · rw [h1] at hle
          refine Or.inr ⟨j, by omega, h1, pj, fun k hk pk => ?_⟩
          by_cases h : k = n
          · subst h; exact Or.inl (by omega)
          · exact h2 k (by omega) pk
theorem info_er4 : (Tryd.prog.info? 39).map (·.size) = some 4 := by kernel_rfl
/-- None of a greater level leads; and none at the level itself from a place on. -/
def NoAb (p : En → Bool) (l : List En) (lv : Int) : Prop := ∀ k, k < l.length → p (gE l k) = true → (gE l k).lv ≤ lv
def NoFr (p : En → Bool) (l : List En) (lv : Int) (i : Nat) : Prop := ∀ k, i ≤ k → k < l.length → ¬ ((gE l k).lv = lv ∧ p (gE l k) = true)
theorem be_found {p : En → Bool} {l : List En} {lv : Int} {i : Nat} (hi : i < l.length) (h1 : NoAb p l lv) (h2 : NoFr p l lv (i + 1)) (hl : (gE l i).lv = lv) (hp : p (gE l i) = true) : BestAt p l l.length (gE l i) := by
  refine Or.inr ⟨i, hi, rfl, hp, fun k hk pk => ?_⟩
  have h3 := h1 k hk pk
  by_cases h4 : (gE l k).lv = lv
  · refine Or.inr ⟨by omega, ?_⟩
    apply Classical.byContradiction
    intro h5
    exact h2 k (by omega) hk ⟨h4, pk⟩
  · exact Or.inl (by omega)
theorem be_next {p : En → Bool} {l : List En} {lv : Int} (h1 : NoAb p l lv) (h2 : NoFr p l lv 0) : NoAb p l (lv - 1) := fun k hk pk => by
  have h3 := h1 k hk pk
  by_cases h4 : (gE l k).lv = lv
  · exact absurd ⟨h4, pk⟩ (h2 k (Nat.zero_le _) hk)
  · omega
theorem be_step {p : En → Bool} {l : List En} {lv : Int} {i : Nat} (h2 : NoFr p l lv (i + 1)) (h : ¬ ((gE l i).lv = lv ∧ p (gE l i) = true)) : NoFr p l lv i := fun k h1 hk => by
  by_cases h3 : k = i
  · subst h3; exact h
  · exact h2 k (by omega) hk
theorem be_none {p : En → Bool} {l : List En} (hlv : ∀ e ∈ l, 1 ≤ e.lv) (h1 : NoAb p l 0) : BestAt p l l.length e0 := Or.inl ⟨rfl, fun j hj => by
  cases hp : p (gE l j)
  · rfl
  · have h2 := h1 j hj hp
    have h3 := hlv _ (gE_mem l j hj)
    omega⟩

set_option maxHeartbeats 2000000 in
set_option maxRecDepth 100000 in
theorem rbest_c {w : World} (l : List En) (ad : Option Addr) (cap : Nat) (hr : RdA w ad l) (hlv : ∀ e ∈ l, 1 ≤ e.lv ∧ e.lv ≤ 3) (hn : l.length ≤ 900) (i0 : Int) (x : Nat) (hx : x < 18446744073709551616) :
    Calls Tryd.prog 22 #[.slice ad l.length cap, .int .i64 i0, .int .u64 x] w fun r w' => r = .returned (bstE (fun e => mB e i0 x) l).v ∧ Below w.heap.size w w' := by
  have HR := Hid.mk hr
  have HM : Hid (∀ i, i < l.length → ∀ w1, Calls Tryd.prog 42 #[(gE l i).v, .int .i64 i0, .int .u64 x] w1 fun r w' => r = .returned (.bool (mB (gE l i) i0 x)) ∧ Below w1.heap.size w1 w') := fun i hi w1 => rleads_any (gE l i) (hlv _ (gE_mem l i hi)).1 (hlv _ (gE_mem l i hi)).2 i0 x hx w1
  have HLV : Hid (∀ e ∈ l, 1 ≤ e.lv ∧ e.lv ≤ 3) := hlv
  have HB : Hid (∀ b, BestAt (fun e => mB e i0 x) l l.length b → bstE (fun e => mB e i0 x) l = b) := fun b hb => best_one (bst_best _ l (fun e he => (hlv e he).1) l.length (Nat.le_refl _)) hb
  have HA3 : Hid (NoAb (fun e => mB e i0 x) l 3) := fun k hk _ => (hlv _ (gE_mem l k hk)).2
  have hnI : (l.length : Int) ≤ 900 := by omega
  clear hr hlv hn hx
  generalize bstE (fun e => mB e i0 x) l = BE at *
  go_enter Tryd.func22, Tryd.ntmps22
  go_wp2
  go_loopw [7, 8] (fun s7 _ wr => ∃ v : Int, 0 ≤ v ∧ v ≤ 3 ∧ s7 = .int .i64 v ∧ NoAb (fun e => mB e i0 x) l v ∧ Below w.heap.size w wr ∧ wr.heap[w.heap.size]? = some (.cells e0.ar 39 (0, 0))) (fun s7 _ _ => (RowKit.intOf s7).toNat)
  case atStart => exact ⟨3, by omega, by omega, rfl, HA3.out, below_new _ _, heap_alloc_new _ _⟩
  case round =>
    obtain ⟨v, hv0, hv3, rfl, hNA, hb, h6⟩ := hrel
    have HNA := Hid.mk hNA
    have HBE := Hid.mk hb
    have H6 := Hid.mk h6
    clear hNA hb h6 HA3
    by_cases hv : 1 ≤ v
    · go_wp2
      go_loopw [8] (fun s8 wq => ∃ i : Nat, i ≤ l.length ∧ s8 = .int .i64 ((i : Int) - 1) ∧ NoFr (fun e => mB e i0 x) l v i ∧ Below w.heap.size w wq ∧ wq.heap[w.heap.size]? = some (.cells e0.ar 39 (0, 0))) (fun s8 _ => (RowKit.intOf s8 + 1).toNat)
      case atStart => exact ⟨l.length, Nat.le_refl _, rfl, (fun k h1 h2 => by omega), HBE.out, H6.out⟩
      case round =>
        obtain ⟨i, hi, rfl, hNF, hb, h6⟩ := hrel
        have HNF := Hid.mk hNF
        have HBQ := Hid.mk hb
        have H6Q := Hid.mk h6
        clear hNF h6 H6 HBE
        cases i with
        | zero =>
          have hneg : ¬ (0 : Int) ≤ ((0 : Nat) : Int) - 1 := by omega
          clear hb hi
          go_wp2
          go_roundw
          case rel => exact ⟨v - 1, by omega, by omega, by go_num, be_next HNA.out HNF.out, HBQ.out, H6Q.out⟩
          case measure => simp [RowKit.intOf]; omega
        | succ i =>
          have hlt : i < l.length := by omega
          have HLT := Hid.mk hlt
          have hib : (i : Int) < 900 := by omega
          have hltI : (i : Int) < (l.length : Int) := by omega
          have ei : (((i + 1 : Nat) : Int) - 1) = (i : Int) := by omega
          rw [ei]
          obtain ⟨g, o, rfl, hg, hc⟩ := HR.out i hlt
          have d0 := cell_later hb (hc 0 _ rfl)
          have d1 := cell_later hb (hc 1 _ rfl)
          have d2 := cell_later hb (hc 2 _ rfl)
          have d3 := cell_later hb (hc 3 _ rfl)
          rw [Nat.add_zero] at d0
          have HC := Hid.mk hc
          have hcall := HM.out i hlt
          have HFO := Hid.mk (fun h1 h2 => HB.out _ (be_found hlt HNA.out HNF.out h1 h2))
          have HST := Hid.mk (fun h => be_step (i := i) HNF.out h)
          clear hb hi ei hg hc hlt
          by_cases hq : (gE l i).lv = v
          · cases hpy : mB (gE l i) i0 x
            · have HX := Hid.mk (HST.out (fun h => by rw [hpy] at h; cases h.2))
              rw [hpy] at hcall
              clear hpy HFO HST
              generalize (gE l i) = y at *
              obtain ⟨b0, b1, b2, b3⟩ := y
              simp only [En.v] at *
              have dq : (b2 == v) = true := by rw [beq_iff_eq]; exact hq
              clear hq
              go_wp2_with fail
              refine (hcall _).mono ?_
              rintro e w' ⟨rfl, hb'⟩
              have HB' := Hid.mk hb'
              clear hb' hcall d0 d1 d2 d3
              go_wp2
              go_roundw
              case rel => exact ⟨i, by have := HLT.out; omega, by go_num, HX.out, below_tr HBQ.out HB'.out, block_later HB'.out H6Q.out⟩
              case measure => simp [RowKit.intOf]
            · have HX := Hid.mk (HFO.out hq hpy)
              rw [hpy] at hcall
              clear hpy HFO HST
              generalize (gE l i) = y at *
              obtain ⟨b0, b1, b2, b3⟩ := y
              simp only [En.v, En.cs] at *
              have dq : (b2 == v) = true := by rw [beq_iff_eq]; exact hq
              clear hq
              go_wp2_with fail
              refine (hcall _).mono ?_
              rintro e w' ⟨rfl, hb'⟩
              have HB' := Hid.mk hb'
              clear hb' hcall d0 d1 d2 d3
              have hbb := below_tr HBQ.out HB'.out
              have d0 := cell_later hbb (HC.out 0 _ rfl)
              have d1 := cell_later hbb (HC.out 1 _ rfl)
              have d2 := cell_later hbb (HC.out 2 _ rfl)
              have d3 := cell_later hbb (HC.out 3 _ rfl)
              rw [Nat.add_zero] at d0
              clear hbb
              go_wp2_with (first
                | (refine wpList_store_segTo rfl 39 _ _ rfl rfl w.heap.size 0 _ #[.int .i64 b0, .int .u64 b1, .int .i64 b2, .int .u64 b3] rfl rfl rfl 39 _ (block_later HB'.out H6Q.out) (show 0 + 4 ≤ 4 by decide) info_er4 (by simp [Value.oneCell']) #[.int .i64 b0, .int .u64 b1, .int .i64 b2, .int .u64 b3] rfl ?_
                   intro w8 hk8 ht8)
                | fail)
              rw [HX.out]
              refine bodyPost_ret (v := .agg #[.int .i64 b0, .int .u64 b1, .int .i64 b2, .int .u64 b3]) ?_ rfl ⟨rfl, below_turn (below_tr HBQ.out HB'.out) ht8 (Nat.le_refl _)⟩
              exact results_cell_row rfl _ _ w.heap.size 39 _ _ _ rfl hk8 Tryd.underlying39 rfl (by kernel_rfl)
          · have HX := Hid.mk (HST.out (fun h => hq h.1))
            clear HFO HST hcall
            generalize (gE l i) = y at *
            obtain ⟨b0, b1, b2, b3⟩ := y
            simp only at *
            have dq : (b2 == v) = false := by rw [beq_eq_false_iff_ne]; exact hq
            clear hq
            go_wp2
            go_roundw
            case rel => exact ⟨i, by have := HLT.out; omega, by go_num, HX.out, HBQ.out, H6Q.out⟩
            case measure => simp [RowKit.intOf]
    · have hv' : v = 0 := by omega
      subst hv'
      have HZ := Hid.mk (HB.out e0 (be_none (fun e he => (HLV.out e he).1) HNA.out))
      clear hv hv0 hv3
      go_wp2_with (first
        | (refine wpList_store_segTo rfl 39 _ _ rfl rfl w.heap.size 0 _ #[.int .i64 0, .int .u64 0, .int .i64 0, .int .u64 0] rfl rfl rfl 39 _ H6.out (show 0 + 4 ≤ 4 by decide) info_er4 (by simp [Value.oneCell']) #[.int .i64 0, .int .u64 0, .int .i64 0, .int .u64 0] rfl ?_
           intro w8 hk8 ht8)
        | fail)
      rw [HZ.out]
      refine bodyPost_ret (v := e0.v) ?_ rfl ⟨rfl, below_turn HBE.out ht8 (Nat.le_refl _)⟩
      exact results_cell_row rfl _ _ w.heap.size 39 _ _ _ rfl hk8 Tryd.underlying39 rfl (by kernel_rfl)

end Go.Proofs.YtdpcbdbdacjcbaaDoor.TR

/- The document's lists of marks: the walk of portreeveref08's Walked. -/
namespace Go.Proofs.YtdpcbdbdacjcbaaDoor.TR
open Go.RowKit Go.Maps

theorem rdec_yes {l : Int} {x : Nat} (h : isT l x = true) (hx : x < 18446744073709551616) (w : World) :
    Calls Tryd.prog 43 #[.int .i64 l, .int .u64 x] w fun e w' => ∃ u r y s a, e = .returned (.tuple #[dv 1 (rdO x) u r y s a, .bool true]) ∧ Below w.heap.size w w' := by
  unfold isT at h
  rw [Bool.and_eq_true, Bool.and_eq_true, decide_eq_true_eq] at h
  refine (rdec_good l x h.1 hx h.2.1 w).mono ?_
  rintro e w' ⟨rfl, hb⟩
  unfold rdV
  rw [h.2.2]
  exact ⟨_, _, _, _, _, rfl, hb⟩
theorem rdec_no {l : Int} {x : Nat} (hl : isLv l = true) (h : isT l x = false) (hx : x < 18446744073709551616) (w : World) :
    Calls Tryd.prog 43 #[.int .i64 l, .int .u64 x] w fun e w' => ∃ k o u r y s a z, e = .returned (.tuple #[dv k o u r y s a, .bool z]) ∧ (z = false ∨ (z = true ∧ k ≠ 1)) ∧ Below w.heap.size w w' := by
  cases hg : goodD l x
  · refine (rdec_fail l x hl hx hg w).mono ?_
    rintro e w' ⟨rfl, hb⟩
    exact ⟨_, _, _, _, _, _, _, _, rfl, Or.inl rfl, hb⟩
  · have hk : rdK l x ≠ 1 := by
      intro hk
      unfold isT at h
      rw [hl, hg, decide_eq_true hk] at h
      cases h
    refine (rdec_good l x hl hx hg w).mono ?_
    rintro e w' ⟨rfl, hb⟩
    exact ⟨_, _, _, _, _, _, _, _, rfl, Or.inr ⟨rfl, hk⟩, hb⟩
theorem Fs.trans {w w1 : World} {a b c : Option Addr} (h : Fs w a b) (k : Fs w1 b c) (hs : w.heap.size ≤ w1.heap.size) : Fs w a c := by
  rcases k with rfl | k
  · exact h
  · exact Or.inr (fun q hq => Nat.le_trans hs (k q hq))

set_option maxHeartbeats 1000000 in
set_option maxRecDepth 100000 in
theorem rwalked_c {w : World} (l : List En) (ad : Option Addr) (cap : Nat) (hr : RLst w ad cap l) (hl : l.length ≤ 800) (most : Int) (hm : 1 ≤ most) (i0 : Int) (x : Nat) (hx : x < 18446744073709551616) (lv : Int) (adS : Option Addr) (n capS : Nat) (A V : Nat → Nat) (hn : n ≤ 50) (hs : StepsAt w adS n A V) :
    Calls Tryd.prog 23 #[.slice ad l.length cap, .int .i64 most, .int .i64 i0, .int .u64 x, .int .i64 lv, .slice adS n capS] w fun r w' => ∃ (k : Nat) (ad' : Option Addr) (cap' : Nat), k ≤ n ∧ (∀ j : Nat, j < k → isT (lv + j) (V j) = true) ∧ (k < n → isT (lv + k) (V k) = false) ∧ r = .returned (.tuple #[.slice ad' (wdL most i0 x lv V l k).length cap', .int .i64 (k : Nat)]) ∧ RLst w' ad' cap' (wdL most i0 x lv V l k) ∧ Fs w ad ad' ∧ Below w.heap.size w w' := by
  have HS := Hid.mk hs
  have HX := Hid.mk hx
  have HR0 : Hid (RLst w ad cap (wdL most i0 x lv V l 0)) := hr
  have HL0 : Hid (l.length = (wdL most i0 x lv V l 0).length) := rfl
  have HLL : Hid (∀ i, i ≤ 50 → (wdL most i0 x lv V l i).length ≤ 850) := fun i hi => by have := wdL_len most i0 x lv V l i; omega
  have HYES : Hid (x < 281474976710656 → ∀ i, wdL most i0 x lv V l (i + 1) = fillL (wdL most i0 x lv V l i) most ⟨i0, baseV x (lv + i), lv + i + 1, rdO (V i)⟩) := fun h1 i => by show (if _ then _ else _) = _; rw [if_pos (show lowB x = true from decide_eq_true h1)]; rfl
  have HNO : Hid (¬ x < 281474976710656 → ∀ i, wdL most i0 x lv V l (i + 1) = wdL most i0 x lv V l i) := fun h1 i => by show (if _ then _ else _) = _; rw [if_neg (show ¬ lowB x = true by unfold lowB; rw [decide_eq_true_eq]; exact h1)]
  have HEOK : Hid (∀ i : Nat, (⟨i0, baseV x (lv + i), lv + i + 1, rdO (V i)⟩ : En).ok) := fun i => wdE_ok i0 x lv V i
  have hnI : (n : Int) ≤ 50 := by omega
  clear hs hr hx hl
  rw [HL0.out]
  clear HL0
  generalize wdL most i0 x lv V l = WD at *
  go_enter Tryd.func23, Tryd.ntmps23
  go_wp2
  go_loopw [0, 4, 14, 15, 16] (fun s0 s4 s14 _ _ wr => ∃ (i : Nat) (adl : Option Addr) (capl : Nat), i ≤ n ∧ s14 = .int .i64 (i : Nat) ∧ s4 = .int .i64 (lv + i) ∧ s0 = .slice adl (WD i).length capl ∧ (∀ j : Nat, j < i → isT (lv + j) (V j) = true) ∧ RLst wr adl capl (WD i) ∧ Fs w ad adl ∧ Below w.heap.size w wr) (fun _ _ s14 _ _ _ => n - (RowKit.intOf s14).toNat)
  case atStart => exact ⟨0, ad, cap, by omega, rfl, by simp, rfl, (fun j hj => absurd hj (Nat.not_lt_zero _)), HR0.out, Or.inl rfl, Below.refl _ _⟩
  case round =>
    obtain ⟨i, adl, capl, hi, rfl, rfl, rfl, hT, hRL, hFS, hb⟩ := hrel
    have HT := Hid.mk hT
    have HRL := Hid.mk hRL
    have HFS := Hid.mk hFS
    have HBR := Hid.mk hb
    clear HR0 hT hRL hFS
    by_cases hlt : i < n
    · have hlt2 : (i : Int) < n := by omega
      have HLT := Hid.mk hlt
      have hib : (i : Int) < 50 := by omega
      obtain ⟨g, o, rfl, hg, q1, q2⟩ := HS.out.cells i hlt
      have d1 := cell_later hb q1
      have d2 := cell_later hb q2
      have HVI := Hid.mk (HS.out.vl i)
      have cst : ((i + 1 : Nat) : Int) = (i : Int) + 1 := by omega
      clear q1 q2 hg hb hlt hi
      by_cases hneg : lv + (i : Int) < 0
      · have HTI : Hid (isT (lv + i) (V i) = false) := by
          show _ = _
          cases h : isT (lv + i) (V i)
          · rfl
          · have := isT_lv h; omega
        have dn : decide (lv + (i : Int) < 0) = true := decide_eq_true hneg
        clear cst
        go_wp2
        go_ret2
        first | exact ⟨i, adl, capl, by have := HLT.out; omega, HT.out, fun _ => HTI.out, rfl, HRL.out, HFS.out, HBR.out⟩ | exact ⟨i, by have := HLT.out; omega, HT.out, fun _ => HTI.out, adl, capl, rfl, HRL.out, HFS.out, HBR.out⟩
      · have dn : decide (lv + (i : Int) < 0) = false := decide_eq_false hneg
        by_cases hbig : 2 < lv + (i : Int)
        · have HTI : Hid (isT (lv + i) (V i) = false) := by
            show _ = _
            cases h : isT (lv + i) (V i)
            · rfl
            · have := isT_lv h; omega
          have db : decide (2 < lv + (i : Int)) = true := decide_eq_true hbig
          clear cst
          go_wp2
          go_ret2
          first | exact ⟨i, adl, capl, by have := HLT.out; omega, HT.out, fun _ => HTI.out, rfl, HRL.out, HFS.out, HBR.out⟩ | exact ⟨i, by have := HLT.out; omega, HT.out, fun _ => HTI.out, adl, capl, rfl, HRL.out, HFS.out, HBR.out⟩
        · have db : decide (2 < lv + (i : Int)) = false := decide_eq_false hbig
          have hlvl : isLv (lv + (i : Int)) = true := by unfold isLv; rw [decide_eq_true_eq]; omega
          cases hTi : isT (lv + i) (V i)
          · have HDE := Hid.mk (fun W => rdec_no hlvl hTi HVI.out W)
            have HTI := Hid.mk hTi
            clear hTi hlvl cst
            go_wp2_with fail
            refine (HDE.out _).mono ?_
            rintro e w1 ⟨k, o, u, r, y, s, a, z, rfl, hz, hb⟩
            have HBE := Hid.mk hb
            clear hb HDE d1 d2
            rcases hz with rfl | ⟨rfl, hz⟩
            · go_wp2
              go_ret2
              exact ⟨i, adl, capl, by have := HLT.out; omega, HT.out, fun _ => HTI.out, rfl, HRL.out.later (below_tr HBE.out (below_new _ _)), HFS.out, below_tr HBR.out (below_tr HBE.out (below_new _ _))⟩
            · go_wp2
              go_ret2
              exact ⟨i, adl, capl, by have := HLT.out; omega, HT.out, fun _ => HTI.out, rfl, HRL.out.later (below_tr HBE.out (below_new _ _)), HFS.out, below_tr HBR.out (below_tr HBE.out (below_new _ _))⟩
          · have HDE := Hid.mk (fun W => rdec_yes hTi HVI.out W)
            have HTI : Hid (∀ j : Nat, j < i + 1 → isT (lv + j) (V j) = true) := fun j hj => by
              by_cases hji : j = i
              · subst hji; exact hTi
              · exact HT.out j (by omega)
            have HOKi := Hid.mk (HEOK.out i)
            have hBa := fun W => refBase_any x (lv + i) hlvl HX.out W
            have HLLi := Hid.mk (HLL.out i (by omega))
            have HYi := Hid.mk (fun h => HYES.out h i)
            have HNi := Hid.mk (fun h => HNO.out h i)
            clear hTi hlvl
            generalize baseV x (lv + i) = bv at *
            generalize rdO (V i) = ov at *
            go_wp2_with fail
            refine (HDE.out _).mono ?_
            rintro e w1 ⟨u, r, y, s, a, rfl, hb⟩
            have HBE := Hid.mk hb
            clear hb HDE d1 d2
            by_cases hlow : x < 281474976710656
            · have dl : decide ((x : Int) < 281474976710656) = true := decide_eq_true (by omega)
              have HY2 := Hid.mk (HYi.out hlow)
              clear HYi HNi hlow
              have hK := heap_alloc_new w1 (.cells #[.int .i64 1, .int .u64 (ov : Nat), .bool u, .bool r, .bool y, .bool s, .int .i64 a] 99)
              have HBW := Hid.mk (below_tr HBE.out (below_new w1 (.cells #[.int .i64 1, .int .u64 (ov : Nat), .bool u, .bool r, .bool y, .bool s, .int .i64 a] 99)))
              have hw2 : IntKind.i64.wrap (lv + (i : Int) + 1) = lv + (i : Int) + 1 := by rw [IntKind.wrap_i64]; omega
              go_upto_region 10 with fail
              generalize w1.alloc (.cells #[.int .i64 1, .int .u64 (ov : Nat), .bool u, .bool r, .bool y, .bool s, .int .i64 a] 99) = wd at *
              generalize w1.heap.size = D at *
              have k1 : wd.cell? ⟨D, 1, none⟩ = some (.int .u64 (ov : Nat)) := (cell_of_row _ _ _ _ _ _ hK).trans rfl
              clear hK
              refine wp_region_noPanic ?_
              refine wp_region_held_drew (S := (fun w' => w'.cell? ⟨D, 1, none⟩ = some (.int .u64 (ov : Nat)))) (by kernel_rfl) ?_ (fun hHeld => ?_)
              · exact cell_later (Below.refl _ _).drew k1
              refine take_at (i := 0) (v := ?_) 52 rfl rfl (by kernel_rfl) (by kernel_rfl) (by kernel_rfl) (fun _ _ _ h => h) (Or.inl ⟨by rfl, ?_⟩) (by assumption) ?_
              rotate_left
              · (intro w' hSw; (try dsimp only at hSw); go_simp; all_goals with_reducible rfl)
              try simp only [Act.put, List.setIfInBounds_toArray, List.set_cons_zero, List.set_cons_succ]
              refine take_at (i := 1) (v := ?_) 53 rfl rfl (by kernel_rfl) (by kernel_rfl) (by kernel_rfl) (fun _ _ _ h => h) (Or.inl ⟨by rfl, ?_⟩) (by assumption) ?_
              rotate_left
              · (intro w' hSw; (try dsimp only at hSw); go_simp; all_goals with_reducible rfl)
              try simp only [Act.put, List.setIfInBounds_toArray, List.set_cons_zero, List.set_cons_succ]
              refine take_at (i := 2) (v := ?_) 54 rfl rfl (by kernel_rfl) (by kernel_rfl) (by kernel_rfl) (fun _ _ _ h => h) (Or.inl ⟨by rfl, ?_⟩) (by assumption) ?_
              rotate_left
              · (intro w' hSw; (try dsimp only at hSw); go_simp; all_goals with_reducible rfl)
              try simp only [Act.put, List.setIfInBounds_toArray, List.set_cons_zero, List.set_cons_succ]
              refine take_at (i := 3) (v := ?_) 55 rfl rfl (by kernel_rfl) (by kernel_rfl) (by kernel_rfl) (fun _ _ _ h => h) (Or.inl ⟨by rfl, ?_⟩) (by assumption) ?_
              rotate_left
              · (intro w' hSw; (try dsimp only at hSw); go_simp; all_goals with_reducible rfl)
              try simp only [Act.put, List.setIfInBounds_toArray, List.set_cons_zero, List.set_cons_succ]
              refine take_at (i := 4) (v := ?_) 56 rfl rfl (by kernel_rfl) (by kernel_rfl) (by kernel_rfl) (fun _ _ _ h => h) (Or.inl ⟨by rfl, ?_⟩) (by assumption) ?_
              rotate_left
              · (intro w' hSw; (try dsimp only at hSw); go_simp; all_goals with_reducible rfl)
              try simp only [Act.put, List.setIfInBounds_toArray, List.set_cons_zero, List.set_cons_succ]
              refine take_at (i := 6) (v := ?_) 58 rfl rfl (by kernel_rfl) (by kernel_rfl) (by kernel_rfl) (fun _ _ _ h => h) (Or.inl ⟨by rfl, ?_⟩) (by assumption) ?_
              rotate_left
              · (intro w' hSw; (try dsimp only at hSw); go_simp; all_goals with_reducible rfl)
              try simp only [Act.put, List.setIfInBounds_toArray, List.set_cons_zero, List.set_cons_succ]
              refine take_at (i := 7) (v := ?_) 59 rfl rfl (by kernel_rfl) (by kernel_rfl) (by kernel_rfl) (fun _ _ _ h => h) (Or.inl ⟨by rfl, ?_⟩) (by assumption) ?_
              rotate_left
              · (intro w' hSw; (try dsimp only at hSw); go_simp; all_goals with_reducible rfl)
              try simp only [Act.put, List.setIfInBounds_toArray, List.set_cons_zero, List.set_cons_succ]
              refine take_at (i := 8) (v := ?_) 60 rfl rfl (by kernel_rfl) (by kernel_rfl) (by kernel_rfl) (fun _ _ _ h => h) (Or.inl ⟨by rfl, ?_⟩) (by assumption) ?_
              rotate_left
              · (intro w' hSw; (try dsimp only at hSw); go_simp; all_goals with_reducible rfl)
              try simp only [Act.put, List.setIfInBounds_toArray, List.set_cons_zero, List.set_cons_succ]
              refine take_at (i := 9) (v := ?_) 61 rfl rfl (by kernel_rfl) (by kernel_rfl) (by kernel_rfl) (fun _ _ _ h => h) (Or.inl ⟨by rfl, ?_⟩) (by assumption) ?_
              rotate_left
              · (intro w' hSw; (try dsimp only at hSw); go_simp; all_goals with_reducible rfl)
              try simp only [Act.put, List.setIfInBounds_toArray, List.set_cons_zero, List.set_cons_succ]
              refine wpAnyH_ready (rs := [5]) (by kernel_rfl) (by simp) ?_
              refine AllReadyH.cons rfl (fun K hK => ?_) AllReadyH.nil
              go_simp
              refine (hBa _).mono ?_
              rintro e v1 ⟨rfl, hbm⟩
              go_wp2_with fail
              have hbd := below_tr (Below.refl _ wd).drew hbm
              have k2 := cell_later hbd k1
              have HB1 := Hid.mk (below_tr HBW.out hbd)
              refine hK.out _ _ k2 (fun hHeld1 => ?_)
              clear hK hHeld hbm hbd k1 hBa
              try simp only [Act.put, List.setIfInBounds_toArray, List.set_cons_zero, List.set_cons_succ]
              refine take_at (i := 10) (v := ?_) 62 rfl rfl (by kernel_rfl) (by kernel_rfl) (by kernel_rfl) (fun _ _ _ h => h) (Or.inl ⟨by rfl, ?_⟩) (by assumption) ?_
              rotate_left
              · (intro w' hSw; (try dsimp only at hSw); go_simp; all_goals with_reducible rfl)
              try simp only [Act.put, List.setIfInBounds_toArray, List.set_cons_zero, List.set_cons_succ]
              refine wpAnyH_ready (rs := [11]) (by kernel_rfl) (by simp) ?_
              refine AllReadyH.cons rfl (fun K hK => ?_) AllReadyH.nil
              go_simp
              refine (radd_c (WD i) ⟨i0, bv, lv + i + 1, ov⟩ HOKi.out adl capl most _ hm (by have := HLLi.out; omega) (HRL.out.later HB1.out)).mono ?_
              rintro e v2 ⟨ad2, cap2, rfl, hr2, hf2, hb2⟩
              go_wp2_with fail
              refine hK.out _ _ (cell_later hb2 k2) (fun hHeld2 => ?_)
              clear hK hHeld1 k2
              try simp only [Act.put, List.setIfInBounds_toArray, List.set_cons_zero, List.set_cons_succ]
              refine take_at (i := 12) (v := ?_) 0 rfl rfl (by kernel_rfl) (by kernel_rfl) (by kernel_rfl) (fun _ _ _ h => h) (Or.inl ⟨by rfl, ?_⟩) (by assumption) ?_
              rotate_left
              · (intro w' hSw; (try dsimp only at hSw); go_simp; all_goals with_reducible rfl)
              try simp only [Act.put, List.setIfInBounds_toArray, List.set_cons_zero]
              refine wpAnyH_done (by kernel_rfl) ?_ _
              refine NoPanic.normal ?_
              have HR2 := Hid.mk hr2
              have HF2 := Hid.mk hf2
              have HB2 := Hid.mk (below_tr HB1.out hb2)
              have HSZ := Hid.mk (Nat.le_trans HBR.out.size HB1.out.size)
              clear hr2 hf2 hb2 hHeld2
              rw [← HY2.out] at HR2
              rw [← HY2.out]
              go_wp2
              go_roundw
              case rel => exact ⟨i + 1, ad2, cap2, by have := HLT.out; omega, by go_num, by rw [cst]; go_num, rfl, HTI.out, HR2.out, HFS.out.trans HF2.out HSZ.out, below_tr HBR.out HB2.out⟩
              case measure => have := HLT.out; simp [RowKit.intOf]; omega
            · have dl : decide ((x : Int) < 281474976710656) = false := decide_eq_false (by omega)
              have HN2 := Hid.mk (HNi.out (by omega))
              clear HYi HNi hlow hBa
              go_wp2
              go_roundw
              case rel =>
                refine ⟨i + 1, adl, capl, by have := HLT.out; omega, by go_num, by rw [cst]; go_num, by rw [HN2.out], HTI.out, ?_, HFS.out, below_tr HBR.out (below_tr HBE.out (below_new _ _))⟩
                rw [HN2.out]; exact HRL.out.later (below_tr HBE.out (below_new _ _))
              case measure => have := HLT.out; simp [RowKit.intOf]; omega
    · have hlt2 : ¬ (i : Int) < n := by omega
      obtain rfl : i = n := by omega
      clear hlt hi hb
      go_wp2
      go_ret2
      first | exact ⟨i, adl, capl, Nat.le_refl _, HT.out, fun h => absurd h (Nat.lt_irrefl _), rfl, HRL.out, HFS.out, HBR.out⟩ | exact ⟨i, Nat.le_refl _, HT.out, fun h => absurd h (Nat.lt_irrefl _), adl, capl, rfl, HRL.out, HFS.out, HBR.out⟩

end Go.Proofs.YtdpcbdbdacjcbaaDoor.TR

namespace Go.Proofs.YtdpcbdbdacjcbaaDoor.TR
open Go.RowKit Go.Maps

/-- Between two steps: the buffer and the document's list, of the same entries. -/
structure PInv (w0 w : World) (t : Nat) (most : Int) (l : List En) (ad : Option Addr) (cap : Nat) : Prop where
  ex : ∃ X, Buf w X t most l ∧ (∀ i, X i → w0.heap.size ≤ i) ∧ notIn X ad
  bel : Below w0.heap.size w0 w
  rl : RLst w ad cap l
  rt : ∀ e ∈ l, rightE e = true
  ln : (l.length : Int) ≤ most
theorem PInv.later {w0 w w' : World} {t : Nat} {most : Int} {l : List En} {ad : Option Addr} {cap : Nat} (h : PInv w0 w t most l ad cap) (hb : Below w.heap.size w w') : PInv w0 w' t most l ad cap := by
  obtain ⟨X, h1, h2, h3⟩ := h.ex
  exact ⟨⟨X, h1.later hb, h2, h3⟩, below_tr h.bel hb, h.rl.later hb, h.rt, h.ln⟩
theorem right_facts {e : En} (h : rightE e = true) : (1 ≤ e.lv ∧ e.lv ≤ 3) ∧ 0 ≤ e.aid := by
  refine ⟨right_lv h, ?_⟩
  unfold rightE at h
  rw [Bool.and_eq_true, decide_eq_true_eq] at h
  exact h.1.1
/-- Behind a doing of the buffer alone, by whatever blocks. -/
theorem PInv.next {w0 w w1 w2 : World} {t : Nat} {most : Int} {l l' : List En} {ad ad' : Option Addr} {cap cap' : Nat} {X X' : Nat → Prop} (h : PInv w0 w t most l ad cap) (hXlo : ∀ i, X i → w0.heap.size ≤ i) (hb : Below w.heap.size w w1) (hr : RLst w1 ad' cap' l') (hn : notIn X ad') (ht : Turn X w1 w2) (hB : Buf w2 X' t most l') (hX' : X' = X ∨ X' = Xp X w1 w2) (hrt : ∀ e ∈ l', rightE e = true) (hln : (l'.length : Int) ≤ most) : PInv w0 w2 t most l' ad' cap' := by
  have hB0 := below_tr h.bel hb
  refine ⟨⟨X', hB, ?_, ?_⟩, hB0.trans (ht.below hXlo hB0.size), hr.turn ht hn, hrt, hln⟩
  · rcases hX' with rfl | rfl
    · exact hXlo
    · intro i hi
      rcases hi with hi | hi
      · exact hXlo i hi
      · exact Nat.le_trans hB0.size hi.1
  · rcases hX' with rfl | rfl
    · exact hn
    · intro a ha hx
      rcases hx with hx | hx
      · exact hn a ha hx
      · have := hr.lt a ha; omega

/-- Behind a doing of the trail, and one of the document's list. -/
theorem PInv.made {w0 w w2 w3 v : World} {t : Nat} {most : Int} {l l' : List En} {ad ad' : Option Addr} {cap cap' : Nat} {X : Nat → Prop} (h : PInv w0 w t most l ad cap) (hXlo : ∀ i, X i → w0.heap.size ≤ i) (hnX : notIn X ad) (hb : Below w.heap.size w w2) (ht : Turn X w2 w3) (hB : Buf w3 (Xp X w2 w3) t most l') (hv : Below w3.heap.size w3 v) (hr : RLst v ad' cap' l') (hf : Fs w3 ad ad') (hrt : ∀ e ∈ l', rightE e = true) (hln : (l'.length : Int) ≤ most) : PInv w0 v t most l' ad' cap' := by
  have hB0 := below_tr h.bel hb
  have hB3 := hB0.trans (ht.below hXlo hB0.size)
  refine ⟨⟨Xp X w2 w3, hB.later hv, fun i hi => ?_, ?_⟩, below_tr hB3 hv, hr, hrt, hln⟩
  · rcases hi with hi | hi
    · exact hXlo i hi
    · exact Nat.le_trans hB0.size hi.1
  · rcases hf with rfl | hf
    · intro a ha hx
      rcases hx with hx | hx
      · exact hnX a ha hx
      · have h1 := h.rl.lt a ha
        have h2 := hb.size
        omega
    · intro a ha hx
      have h1 := hf a ha
      have h2 := buf_lt hB _ hx
      omega
theorem fillL_rt {l : List En} {m : Int} {e : En} (h : ∀ x ∈ l, rightE x = true) : ∀ x ∈ fillL l m e, rightE x = true := by
  intro x hx
  cases hr : rightE e
  · have : fillL l m e = l := by unfold fillL; rw [hr]; rfl
    rw [this] at hx; exact h x hx
  · unfold fillL at hx
    rw [hr, if_pos rfl] at hx
    have key : ∀ y, y ∈ l ++ [e] → rightE y = true := fun y hy => by
      rcases List.mem_append.1 hy with h1 | h1
      · exact h y h1
      · rw [List.mem_singleton.1 h1]; exact hr
    split at hx
    · exact h x hx
    · split at hx
      · exact key x (List.mem_of_mem_eraseIdx hx)
      · exact key x hx
theorem fillL_ln {l : List En} {most : Int} {e : En} (h : (l.length : Int) ≤ most) : ((fillL l most e).length : Int) ≤ most := by
  unfold fillL
  split
  · split
    · exact h
    · split
      · rw [List.length_eraseIdx_of_lt (by simp)]
        simp
        omega
      · rw [List.length_append]; simp; omega
  · exact h
theorem wdL_rt {most i0 : Int} {x : Nat} {lv : Int} {V : Nat → Nat} {l : List En} (h : ∀ y ∈ l, rightE y = true) : ∀ k, ∀ y ∈ wdL most i0 x lv V l k, rightE y = true
  | 0 => h
  | k + 1 => by
    unfold wdL
    split
    · exact fillL_rt (wdL_rt h k)
    · exact wdL_rt h k
theorem wdL_ln {most i0 : Int} {x : Nat} {lv : Int} {V : Nat → Nat} {l : List En} (h : (l.length : Int) ≤ most) : ∀ k, ((wdL most i0 x lv V l k).length : Int) ≤ most
  | 0 => h
  | k + 1 => by
    unfold wdL
    split
    · exact fillL_ln (wdL_ln h k)
    · exact wdL_ln h k
theorem tab_uniq {lv : Int} {V : Nat → Nat} {n j k : Nat} (hj : j ≤ n) (hk : k ≤ n) (h1 : ∀ i : Nat, i < j → isT (lv + i) (V i) = true) (h2 : j < n → isT (lv + j) (V j) = false) (k1 : ∀ i : Nat, i < k → isT (lv + i) (V i) = true) (k2 : k < n → isT (lv + k) (V k) = false) : k = j := by
  rcases Nat.lt_trichotomy j k with h | h | h
  · have := k1 j h; rw [h2 (by omega)] at this; cases this
  · exact h.symm
  · have := h1 k h; rw [k2 (by omega)] at this; cases this
theorem cells7o {w1 : World} {g t : Nat} {c0 c1 c2 c3 c4 c5 c6 : Value} (hh : w1.heap[g]? = some (.cells #[c0, c1, c2, c3, c4, c5, c6] t (0, 0))) :
    w1.cell? ⟨g, 0, none⟩ = some c0 ∧ w1.cell? ⟨g, 1, none⟩ = some c1 ∧ w1.cell? ⟨g, 2, none⟩ = some c2 ∧ w1.cell? ⟨g, 3, none⟩ = some c3 ∧ w1.cell? ⟨g, 4, none⟩ = some c4 ∧ w1.cell? ⟨g, 5, none⟩ = some c5 ∧ w1.cell? ⟨g, 6, none⟩ = some c6 := by
  refine ⟨?_, ?_, ?_, ?_, ?_, ?_, ?_⟩
  all_goals (rw [cell_of_row _ _ _ _ _ _ hh]; rfl)
theorem block_x {w w' : World} {X : Nat → Prop} {g : Nat} {o : Obj} (ht : Turn X w w') (h : w.heap[g]? = some o) (hX : ¬ X g) : w'.heap[g]? = some o := (ht.block _ (block_lt h) hX).trans h
theorem steps_turn {w w' : World} {X : Nat → Prop} {ad : Option Addr} {n : Nat} {A V : Nat → Nat} (h : StepsAt w ad n A V) (ht : Turn X w w') (hn : notIn X ad) : StepsAt w' ad n A V := by
  refine ⟨fun i hi => ?_, h.al, h.vl⟩
  obtain ⟨g, o, rfl, hg, q1, q2⟩ := h.cells i hi
  exact ⟨g, o, rfl, Nat.lt_of_lt_of_le hg ht.size, turn_cell ht (hn _ rfl) q1, turn_cell ht (hn _ rfl) q2⟩

theorem neR (e : En) (w : World) : (binOp .neq 39 e.v e.v).run Tryd.prog w = .ok (.bool false) w := by
  obtain ⟨a0, a1, a2, a3⟩ := e
  go_simp

end Go.Proofs.YtdpcbdbdacjcbaaDoor.TR
