/- The walk of the document's Tokens. -/
import Derived.Test.YtbpahdgkedfmdaaDoorRefCharsB
import Derived.Test.YtbpahdgkedfmdaaDoorLexTok
import Derived.Deep.CutBlock
import Derived.Deep.DeepCutAuto
namespace Go.Proofs.YtbpahdgkedfmdaaDoor
open Go.RowKit Go.Lib

theorem info_rt : (Tryd.prog.info? 34).map (fun i => (i.zero, i.size, i.bytes)) = some (some (.agg #[.int .i64 0, .int .i64 0, .int .i64 0, .int .u64 0]), 4, 32) := by kernel_rfl
def rCells (t : RTok) : List Value := [.int .i64 t.kind, .int .i64 t.from_, .int .i64 t.to_, .int .u64 t.word]
def rtCells (l : List RTok) : List Value := l.flatMap rCells
theorem rtCells_snoc (l : List RTok) (t : RTok) : rtCells (l ++ [t]) = rtCells l ++ rCells t := by simp [rtCells]

/-- What Tokens leaves. -/
def LeftR (w : World) (ANS : List RTok × Nat × Nat) (e : Ending) (w' : World) : Prop :=
  ∃ v, e = .returned (.tuple #[v, .int .i64 ANS.2.1, .int .i64 ANS.2.2]) ∧ w'.ownsRow w.heap.size 34 4 v ANS.1.length (rtCells ANS.1) ∧ Below w.heap.size w w'
theorem leftR_nil {w w' : World} {ANS : List RTok × Nat × Nat} (k a : Nat) (h : ANS = ([], k, a)) (hb : Below w.heap.size w w') : LeftR w ANS (.returned (.tuple #[.slice none 0 0, .int .i64 k, .int .i64 a])) w' := by
  subst h
  exact ⟨_, rfl, World.ownsRow_nil _ _ _ _, hb⟩

/-- What the loop of Tokens knows at the character i. -/
structure Rt (w1 : World) (rs : List Nat) (i : Nat) (v : Value) (acc : List RTok) (ANS : List RTok × Nat × Nat) (wr : World) : Prop where
  owns : wr.ownsRow w1.heap.size 34 4 v acc.length (rtCells acc)
  below : Below w1.heap.size w1 wr
  hi : i ≤ rs.length
  len : acc.length ≤ i
  ans : ∃ n, rs.length ≤ i + n ∧ refG n (rs.drop i) i acc = ANS

theorem tw_facts (p : Nat → Bool) : ∀ l : List Nat, (∀ j (h : j < (l.takeWhile p).length), ∃ h' : j < l.length, l[j] = (l.takeWhile p)[j] ∧ p l[j] = true) ∧ (l.takeWhile p).length ≤ l.length ∧ (∀ h : (l.takeWhile p).length < l.length, p l[(l.takeWhile p).length] = false)
  | [] => ⟨fun j h => by simp at h, by simp, fun h => by simp at h⟩
  | a :: l => by
    obtain ⟨i1, i2, i3⟩ := tw_facts p l
    by_cases ha : p a = true
    · have e : (a :: l).takeWhile p = a :: l.takeWhile p := List.takeWhile_cons_of_pos ha
      refine ⟨fun j h => ?_, ?_, fun h => ?_⟩
      · cases j with
        | zero => exact ⟨by simp, by simp [e], by simpa using ha⟩
        | succ j =>
          have h' : j < (l.takeWhile p).length := by rw [e] at h; simpa using h
          obtain ⟨k1, k2, k3⟩ := i1 j h'
          exact ⟨by simpa using k1, by simpa [e] using k2, by simpa using k3⟩
      · rw [e]; simpa using i2
      · have h' : (l.takeWhile p).length < l.length := by rw [e] at h; simpa using h
        have := i3 h'
        simpa [e] using this
    · have e : (a :: l).takeWhile p = [] := List.takeWhile_cons_of_neg ha
      refine ⟨fun j h => ?_, ?_, fun h => ?_⟩
      · rw [e] at h; simp at h
      · rw [e]; simp
      · simpa [e] using ha
theorem takeP_facts (rs : List Nat) (i : Nat) (hi : i < rs.length) (hp : isPart rs[i] = true) :
    0 < (takeP (rs[i] :: rs.drop (i + 1))).length ∧ i + (takeP (rs[i] :: rs.drop (i + 1))).length ≤ rs.length ∧
    (∀ k (h : k < rs.length), i ≤ k → k < i + (takeP (rs[i] :: rs.drop (i + 1))).length → isPart rs[k] = true) ∧
    (∀ h : i + (takeP (rs[i] :: rs.drop (i + 1))).length < rs.length, isPart rs[i + (takeP (rs[i] :: rs.drop (i + 1))).length] = false) ∧
    (∀ j (h : j < (takeP (rs[i] :: rs.drop (i + 1))).length), ∃ h' : i + j < rs.length, rs[i + j] = (takeP (rs[i] :: rs.drop (i + 1)))[j]) := by
  obtain ⟨h1, h2, h3⟩ := tw_facts isPart (rs.drop i)
  have h0 : 0 < ((rs.drop i).takeWhile isPart).length := by
    rw [List.drop_eq_getElem_cons hi, List.takeWhile_cons_of_pos hp]; simp
  have e : takeP (rs[i] :: rs.drop (i + 1)) = (rs.drop i).takeWhile isPart := by rw [takeP, ← List.drop_eq_getElem_cons hi]
  rw [List.length_drop] at h2
  simp only [e]
  refine ⟨h0, by omega, fun k h hk hk2 => ?_, fun h => ?_, fun j h => ?_⟩
  · obtain ⟨k1, k2, k3⟩ := h1 (k - i) (by omega)
    rw [List.getElem_drop] at k3
    have : i + (k - i) = k := by omega
    simpa [this] using k3
  · have := h3 (by rw [List.length_drop]; omega)
    rwa [List.getElem_drop] at this
  · obtain ⟨k1, k2, k3⟩ := h1 j h
    rw [List.getElem_drop] at k2
    exact ⟨by rw [List.length_drop] at k1; omega, k2⟩

/-- The number To of the token at hand, behind the append. -/
theorem t_cell {base : Nat} {e : TypeId} {size n : Nat} {xs : List Value} {wr w2 : World} {v : Value} (hown : wr.ownsRow base e size v n xs) {k a b c : Value} {ty : TypeId} {o2 : Obj} (hg : ((wr.alloc (.cells #[k, a, b, c] ty)).alloc o2).grownBy w2 v.ownBlock) :
    w2.cell? ⟨wr.heap.size, 2, none⟩ = some b := by
  have h1 : ((wr.alloc (.cells #[k, a, b, c] ty)).alloc o2).heap.size = wr.heap.size + 2 := by show ((wr.heap.push _).push o2).size = _; simp
  rw [hg.cell_far ⟨wr.heap.size, 2, none⟩ (by rw [h1]; show wr.heap.size < _; omega) (fun h => by have := hown.lt _ h.symm; simp at this)]
  have h2 : ((wr.alloc (.cells #[k, a, b, c] ty)).alloc o2).heap[wr.heap.size]? = some (.cells #[k, a, b, c] ty) := heap_alloc2_old _ _ _
  unfold World.cell?
  simp [h2]
theorem Rt.push {w1 wr w2 : World} {rs : List Nat} {i : Nat} {v v' : Value} {acc : List RTok} {ANS : List RTok × Nat × Nat} (hR : Rt w1 rs i v acc ANS wr) (t : RTok) {o1 o2 : Obj} (hg : ((wr.alloc o1).alloc o2).grownBy w2 v.ownBlock)
    (hown : w2.ownsRow w1.heap.size 34 4 v' (acc.length + 1) (rtCells acc ++ rCells t)) (k m : Nat) (hk : i < k) (hkl : k ≤ rs.length) (hm : rs.length ≤ k + m) (ha : refG m (rs.drop k) k (acc ++ [t]) = ANS) : Rt w1 rs k v' (acc ++ [t]) ANS w2 := by
  have hs := hR.below.size
  refine ⟨?_, ?_, hkl, by have := hR.len; simp; omega, m, hm, ha⟩
  · rw [rtCells_snoc, List.length_append]; exact hown
  · exact ((hR.below.alloc hs o1).alloc (by simp; omega) o2).grown hg (by simp; omega) (fun q hq => (hR.owns.lt q hq).1)

set_option maxRecDepth 100000 in
set_option maxHeartbeats 16000000 in
theorem rtokens_any (s : ByteArray) (w : World) (hs : s.size ≤ 1048576) :
    Calls Tryd.prog 9 #[.string s] w (LeftR w (refS s.data.toList)) := by
  unfold refS
  rw [← size_eq]
  by_cases hlen : 16384 < s.size
  · rw [if_pos hlen]
    go_enter Tryd.func9, Tryd.ntmps9
    go_wp2
    go_ret3
    exact leftR_nil 11 0 rfl (Below.refl _ _)
  · rw [if_neg hlen]
    have cC := chars_any s w hs
    cases hv : validD s.data.toList
    · rw [if_pos rfl]
      rw [hv] at cC
      clear hv
      go_enter Tryd.func9, Tryd.ntmps9
      go_wp2_with fail
      refine cC.mono ?_
      rintro e w1 ⟨v, rfl, _, hb⟩
      go_wp2
      go_ret3
      exact leftR_nil 60 0 rfl hb
    · rw [if_neg (by simp)]
      have ec : charsOf s.data.toList = (chs s.data.toList).map (·.1) := by unfold charsOf; rw [hv, if_pos rfl]
      have hle := charsOf_le s.data.toList
      have hrl := charsOf_len s.data.toList
      rw [← size_eq] at hrl
      have en : (chs s.data.toList).length = (charsOf s.data.toList).length := by rw [ec, List.length_map]
      rw [hv] at cC
      rw [en, ← ec]
      clear hv ec en
      generalize charsOf s.data.toList = rs at *
      have HA : Hid (∃ A, A = refG rs.length rs 0 []) := ⟨_, rfl⟩
      generalize hANS : refG rs.length rs 0 [] = ANS
      obtain ⟨i0, hi0, hz0, hz1, hz2⟩ := info_parts info_rt
      go_enter Tryd.func9, Tryd.ntmps9
      go_wp2_with fail
      refine cC.mono ?_
      rintro e w1 ⟨vc, rfl, hownc, hb1⟩
      obtain ⟨ao, cap, rfl, hcap, hcell⟩ := int_form hownc
      have HB1 : Hid (Below w.heap.size w w1) := hb1
      have HC : Hid (0 < rs.length → ∃ g, ao = some ⟨g, 0, none⟩ ∧ ∀ i (hi : i < rs.length), w1.cell? ⟨g, 0 + i, none⟩ = some (.int .i64 (rs[i] : Nat))) := hcell
      have HZ : Hid (∀ z ∈ rs, z ≤ 1114111) := hle
      clear hcell hle hownc cC HA hb1
      go_wp2
      go_loopw [7, 8] (fun o ii wr => ∃ (i : Nat) (acc : List RTok), ii = .int .i64 i ∧ Rt w1 rs i o acc ANS wr) (fun _ ii _ => rs.length - (RowKit.intOf ii).toNat)
      case atStart => exact ⟨0, [], rfl, World.ownsRow_nil _ _ _ _, Below.refl _ _, by omega, by simp, rs.length, by omega, by simpa using hANS⟩
      case round =>
        obtain ⟨i, acc, rfl, hR⟩ := hrel
        have hi := hR.hi
        have hal := hR.len
        have hrn : rs.length ≤ 16384 := by omega
        clear hANS
        by_cases hlt : i < rs.length
        · obtain ⟨g, rfl, hcell⟩ := HC.out (by omega)
          have hcw : ∀ j (hj : j < rs.length), wr.cell? ⟨g, j, none⟩ = some (.int .i64 (rs[j] : Nat)) := fun j hj => by
            have := cell_later' hR.below (hcell j hj)
            rwa [Nat.zero_add] at this
          have HCW : Hid (∀ j (hj : j < rs.length), wr.cell? ⟨g, j, none⟩ = some (.int .i64 (rs[j] : Nat))) := hcw
          have ci := hcw i hlt
          have hr := HZ.out _ (List.getElem_mem hlt)
          have HR : Hid (Rt w1 rs i u7 acc ANS wr) := hR
          obtain ⟨n, hn1, hn2⟩ := hR.ans
          obtain ⟨m, rfl⟩ : ∃ m, n = m + 1 := ⟨n - 1, by omega⟩
          rw [List.drop_eq_getElem_cons hlt, refG_cons] at hn2
          have HN := hn2
          clear hcell hcw hR hn2
          have hi0z : (0 : Int) ≤ (i : Int) := by omega
          have hi1z : (i : Int) < (rs.length : Int) := by omega
          by_cases h35 : rs[i] = 35
          · rw [if_pos h35] at HN
            have HN2 : Hid (ANS = (acc, 0, 0)) := HN.symm
            clear HN
            have e35 : ((rs[i] : Int) != 35) = false := by simp; omega
            go_wp2
            go_ret3
            rw [HN2.out]
            exact ⟨_, rfl, ownsRow_base HR.out.owns HB1.out.size, below_tr HB1.out HR.out.below⟩
          · rw [if_neg h35] at HN
            have e35 : ((rs[i] : Int) != 35) = true := by simp; omega
            by_cases hbl : rs[i] = 32 ∨ rs[i] = 9
            · rw [if_pos hbl] at HN
              have HN2 : Hid (refG m (rs.drop (i + 1)) (i + 1) acc = ANS) := HN
              clear HN
              rcases hbl with hbl | hbl
              · have e32 : ((rs[i] : Int) == 32) = true := by simp; omega
                go_wp2
                go_roundw
                case rel => exact ⟨i + 1, acc, by congr 1, HR.out.owns, HR.out.below, by omega, by omega, m, by omega, HN2.out⟩
                case measure => simp only [RowKit.intOf]; omega
              · have e32 : ((rs[i] : Int) == 32) = false := by simp; omega
                have e9 : ((rs[i] : Int) == 9) = true := by simp; omega
                go_wp2
                go_roundw
                case rel => exact ⟨i + 1, acc, by congr 1, HR.out.owns, HR.out.below, by omega, by omega, m, by omega, HN2.out⟩
                case measure => simp only [RowKit.intOf]; omega
            · rw [if_neg hbl] at HN
              have e32 : ((rs[i] : Int) == 32) = false := by simp; omega
              have e9 : ((rs[i] : Int) == 9) = false := by simp; omega
              have cP := rpart_any rs[i] wr
              have hown := HR.out.owns
              have hbel := HR.out.below.size
              have hbig : acc.length + 1 ≤ maxLen := by unfold maxLen; omega
              cases hpt : isPart rs[i]
              · rw [hpt] at cP
                rw [if_pos hpt] at HN
                have cS := rsign_any rs[i]
                have ca : ∀ o, (wr.alloc o).cell? ⟨g, i, none⟩ = some (.int .i64 (rs[i] : Nat)) := fun o => cell_past ci o
                clear hbl hpt
                cases hsg : isSign rs[i]
                · rw [hsg, if_neg (by simp)] at HN
                  have HN2 : Hid (ANS = ([], 61, i)) := HN.symm
                  have hse : signE rs[i] = 61 := by unfold signE; rw [hsg, if_neg (by simp)]
                  rw [hse] at cS
                  clear HN hsg hse
                  go_wp2_with fail
                  refine wp_loop_rounds 1 ?_
                  rw [rounds_succ]
                  go_wp2_with (go_at_call 23; refine cP.mono ?_; rintro e w' ⟨rfl, rfl⟩)
                  refine (cS _).mono ?_
                  rintro e w' ⟨rfl, rfl⟩
                  go_wp2
                  go_ret3
                  exact leftR_nil 61 i HN2.out (below_tr HB1.out (HR.out.below.alloc hbel _))
                · rw [hsg, if_pos rfl] at HN
                  have HN2 : Hid (refG m (rs.drop (i + 1)) (i + 1) (acc ++ [⟨3, i, i + 1, 0⟩]) = ANS) := HN
                  have hse : signE rs[i] = 0 := by unfold signE; rw [hsg, if_pos rfl]
                  rw [hse] at cS
                  clear HN hsg hse
                  go_wp2_with fail
                  refine wp_loop_rounds 1 ?_
                  rw [rounds_succ]
                  go_wp2_with (go_at_call 23; refine cP.mono ?_; rintro e w' ⟨rfl, rfl⟩)
                  refine (cS _).mono ?_
                  rintro e w' ⟨rfl, rfl⟩
                  go_wp2_with (at_builtin; refine wpList_append_lies _ rfl (.tmp 99) (.tmp 101) 27 rfl w1.heap.size 34 i0 _ 4 32 Tryd.underlying27 hi0 hz0 hz1 hz2 rfl (by omega) u7 acc.length (rtCells acc) rfl ((hown.alloc _).alloc _) ⟨wr.heap.size + 1, 0, none⟩ 1 1 [.int .i64 3, .int .i64 i, .int .i64 ((i : Int) + 1), .int .u64 0] rfl rfl (World.news_of_block (cs := #[.int .i64 3, .int .i64 i, .int .i64 ((i : Int) + 1), .int .u64 0]) (t := 34) (fr := (0, 0)) (heap_alloc2_new wr _ _)) (by simp [Value.oneCell']) (by omega) hbig (by omega) (by simp; omega) (wr.heap.size + 2) (by simp) ?_; intro g2 cap2 w2 hown1 hgrow hat' hlt'; have ct := t_cell hown hgrow)
                  go_roundw
                  case rel => exact ⟨i + 1, acc ++ [⟨3, i, i + 1, 0⟩], by congr 1, HR.out.push ⟨3, i, i + 1, 0⟩ hgrow hown1 (i + 1) m (by omega) (by omega) (by omega) HN2.out⟩
                  case measure => simp only [RowKit.intOf]; omega
              · rw [if_neg (by rw [hpt]; simp)] at HN
                obtain ⟨z1, z2, z3, z4, z5⟩ := takeP_facts rs i hlt hpt
                have ed : (rs[i] :: rs.drop (i + 1)).drop (takeP (rs[i] :: rs.drop (i + 1))).length = rs.drop (i + (takeP (rs[i] :: rs.drop (i + 1))).length) := by
                  rw [← List.drop_eq_getElem_cons hlt, List.drop_drop]
                rw [ed] at HN
                clear ed cP hpt hbl
                generalize hzs : takeP (rs[i] :: rs.drop (i + 1)) = zs at *
                clear hzs
                obtain ⟨K, hK⟩ : ∃ K, K = i + zs.length := ⟨_, rfl⟩
                rw [← hK] at z2 HN
                have HZ3 : Hid (∀ k (h : k < rs.length), i ≤ k → k < K → isPart rs[k] = true) := by rw [hK]; exact z3
                have HZ4 : Hid (∀ h : K < rs.length, isPart rs[K] = false) := by subst hK; exact z4
                have HZ5 : Hid (∀ j (h : j < zs.length), ∃ h' : i + j < rs.length, rs[i + j] = zs[j]) := z5
                have ca : ∀ o, (wr.alloc o).cell? ⟨g, i, none⟩ = some (.int .i64 (rs[i] : Nat)) := fun o => cell_past ci o
                have HN2 := HN
                have hKi : ¬ ((K : Int) = (i : Int)) := by omega
                have cDg := rdigit_any rs[i]
                clear z3 z4 z5 HN
                go_wp2_with fail
                go_loop [9] (fun k => ∃ q : Nat, k = .int .i64 q ∧ i ≤ q ∧ q ≤ K) (fun k => K - (RowKit.intOf k).toNat)
                case atStart => exact ⟨i, rfl, by omega, by omega⟩
                case round =>
                  obtain ⟨q, rfl, hq1, hq2⟩ := hrel
                  by_cases hqK : q < K
                  · have hql : q < rs.length := by omega
                    have cq := HCW.out q hql
                    have cP := rpart_any rs[q] wr
                    rw [HZ3.out q hql hq1 hqK] at cP
                    have hqz : (q : Int) < (rs.length : Int) := by omega
                    have hqz0 : (0 : Int) ≤ (q : Int) := by omega
                    go_wp2_with (go_at_call 23; refine cP.mono ?_; rintro e w' ⟨rfl, rfl⟩)
                    go_round
                    case rel => exact ⟨q + 1, by congr 1, by omega, by omega⟩
                    case measure => simp only [RowKit.intOf]; omega
                  · have hqe : q = K := by omega
                    subst hqe
                    subst hK
                    have hKi' : ¬ ((zs.length : Int) = 0) := by omega
                    clear HZ3
                    by_cases hKl : i + zs.length < rs.length
                    · have cq := HCW.out (i + zs.length) hKl
                      have cP := rpart_any rs[i + zs.length] wr
                      rw [HZ4.out hKl] at cP
                      have hr2 := HZ.out _ (List.getElem_mem hKl)
                      have hqz : ((i : Int) + (zs.length : Int)) < (rs.length : Int) := by omega
                      have hqz0 : (0 : Int) ≤ (i : Int) + (zs.length : Int) := by omega
                      clear HZ4
                      generalize rs[i + zs.length] = rK at *
                      go_wp2_with (go_at_call 23; refine cP.mono ?_; rintro e w' ⟨rfl, rfl⟩)
                      cases hdg : isDig rs[i]
                      · rw [hdg] at cDg HN2
                        rw [if_neg (by simp)] at HN2
                        refine (cDg _).mono ?_
                        rintro e w' ⟨rfl, rfl⟩
                        by_cases h40 : 40 < zs.length
                        · rw [if_pos h40] at HN2
                          have HN3 : Hid (ANS = ([], 11, i)) := HN2.symm
                          clear HN2 hdg
                          have h40z : (40 : Int) < (zs.length : Int) := by omega
                          go_wp2
                          go_ret3
                          exact leftR_nil 11 i HN3.out (below_tr HB1.out (HR.out.below.alloc hbel _))
                        · rw [if_neg h40] at HN2
                          have HN3 : Hid (refG m (rs.drop (i + zs.length)) (i + zs.length) (acc ++ [⟨1, i, i + zs.length, 0⟩]) = ANS) := HN2
                          clear HN2 hdg
                          have h40z : ¬ (40 : Int) < (zs.length : Int) := by omega
                          go_wp2_with (at_builtin; refine wpList_append_lies _ rfl (.tmp 99) (.tmp 101) 27 rfl w1.heap.size 34 i0 _ 4 32 Tryd.underlying27 hi0 hz0 hz1 hz2 rfl (by omega) u7 acc.length (rtCells acc) rfl ((hown.alloc _).alloc _) ⟨wr.heap.size + 1, 0, none⟩ 1 1 [.int .i64 1, .int .i64 i, .int .i64 ((i : Int) + (zs.length : Int)), .int .u64 0] rfl rfl (World.news_of_block (cs := #[.int .i64 1, .int .i64 i, .int .i64 ((i : Int) + (zs.length : Int)), .int .u64 0]) (t := 34) (fr := (0, 0)) (heap_alloc2_new wr _ _)) (by simp [Value.oneCell']) (by omega) hbig (by omega) (by simp; omega) (wr.heap.size + 2) (by simp) ?_; intro g2 cap2 w2 hown1 hgrow hat' hlt'; have ct := t_cell hown hgrow)
                          go_roundw
                          case rel => exact ⟨i + zs.length, acc ++ [⟨1, i, i + zs.length, 0⟩], by congr 1, HR.out.push ⟨1, i, i + zs.length, 0⟩ hgrow hown1 (i + zs.length) m (by omega) (by omega) (by omega) HN3.out⟩
                          case measure => simp only [RowKit.intOf]; omega
                      · rw [hdg] at cDg HN2
                        rw [if_pos rfl] at HN2
                        refine (cDg _).mono ?_
                        rintro e w' ⟨rfl, rfl⟩
                        have hcapi : ¬ (cap = i) := by omega
                        have hz : ∀ z ∈ zs, z ≤ 1114111 := fun z hz => by
                          obtain ⟨j, hj, rfl⟩ := List.mem_iff_getElem.1 hz
                          obtain ⟨h', e⟩ := HZ5.out j hj
                          rw [← e]
                          exact HZ.out _ (List.getElem_mem h')
                        have cV : ∀ o, Calls Tryd.prog 14 #[.slice (some ⟨g, i, none⟩) zs.length (cap - i)] (wr.alloc o) _ := fun o => rvalue_pos zs g i (cap - i) (wr.alloc o) z1 (by omega) (by omega) hz (fun j hj => by
                          obtain ⟨h', e⟩ := HZ5.out j hj
                          rw [← e]
                          exact cell_past (HCW.out (i + j) h') o)
                        generalize valE zs = E at *
                        generalize valW zs = W at *
                        by_cases hE : E = 0
                        · subst hE
                          rw [if_neg (by simp)] at HN2
                          have HN3 : Hid (refG m (rs.drop (i + zs.length)) (i + zs.length) (acc ++ [⟨2, i, i + zs.length, W⟩]) = ANS) := HN2
                          clear HN2 hdg hz
                          go_wp2_with fail
                          refine (cV _).mono ?_
                          rintro e w' ⟨rfl, rfl⟩
                          go_wp2_with (at_builtin; refine wpList_append_lies _ rfl (.tmp 99) (.tmp 101) 27 rfl w1.heap.size 34 i0 _ 4 32 Tryd.underlying27 hi0 hz0 hz1 hz2 rfl (by omega) u7 acc.length (rtCells acc) rfl ((hown.alloc _).alloc _) ⟨wr.heap.size + 1, 0, none⟩ 1 1 [.int .i64 2, .int .i64 i, .int .i64 ((i : Int) + (zs.length : Int)), .int .u64 W] rfl rfl (World.news_of_block (cs := #[.int .i64 2, .int .i64 i, .int .i64 ((i : Int) + (zs.length : Int)), .int .u64 W]) (t := 34) (fr := (0, 0)) (heap_alloc2_new wr _ _)) (by simp [Value.oneCell']) (by omega) hbig (by omega) (by simp; omega) (wr.heap.size + 2) (by simp) ?_; intro g2 cap2 w2 hown1 hgrow hat' hlt'; have ct := t_cell hown hgrow)
                          go_roundw
                          case rel => exact ⟨i + zs.length, acc ++ [⟨2, i, i + zs.length, W⟩], by congr 1, HR.out.push ⟨2, i, i + zs.length, W⟩ hgrow hown1 (i + zs.length) m (by omega) (by omega) (by omega) HN3.out⟩
                          case measure => simp only [RowKit.intOf]; omega
                        · rw [if_pos hE] at HN2
                          have HN3 : Hid (ANS = ([], E, i)) := HN2.symm
                          have hEz : ¬ ((E : Int) = 0) := by omega
                          clear HN2 hdg hz hE
                          go_wp2_with fail
                          refine (cV _).mono ?_
                          rintro e w' ⟨rfl, rfl⟩
                          go_wp2
                          go_ret3
                          exact leftR_nil E i HN3.out (below_tr HB1.out (HR.out.below.alloc hbel _))
                    · have hqz : ¬ ((i : Int) + (zs.length : Int)) < (rs.length : Int) := by omega
                      clear HZ4
                      go_wp2_with fail
                      cases hdg : isDig rs[i]
                      · rw [hdg] at cDg HN2
                        rw [if_neg (by simp)] at HN2
                        refine (cDg _).mono ?_
                        rintro e w' ⟨rfl, rfl⟩
                        by_cases h40 : 40 < zs.length
                        · rw [if_pos h40] at HN2
                          have HN3 : Hid (ANS = ([], 11, i)) := HN2.symm
                          clear HN2 hdg
                          have h40z : (40 : Int) < (zs.length : Int) := by omega
                          go_wp2
                          go_ret3
                          exact leftR_nil 11 i HN3.out (below_tr HB1.out (HR.out.below.alloc hbel _))
                        · rw [if_neg h40] at HN2
                          have HN3 : Hid (refG m (rs.drop (i + zs.length)) (i + zs.length) (acc ++ [⟨1, i, i + zs.length, 0⟩]) = ANS) := HN2
                          clear HN2 hdg
                          have h40z : ¬ (40 : Int) < (zs.length : Int) := by omega
                          go_wp2_with (at_builtin; refine wpList_append_lies _ rfl (.tmp 99) (.tmp 101) 27 rfl w1.heap.size 34 i0 _ 4 32 Tryd.underlying27 hi0 hz0 hz1 hz2 rfl (by omega) u7 acc.length (rtCells acc) rfl ((hown.alloc _).alloc _) ⟨wr.heap.size + 1, 0, none⟩ 1 1 [.int .i64 1, .int .i64 i, .int .i64 ((i : Int) + (zs.length : Int)), .int .u64 0] rfl rfl (World.news_of_block (cs := #[.int .i64 1, .int .i64 i, .int .i64 ((i : Int) + (zs.length : Int)), .int .u64 0]) (t := 34) (fr := (0, 0)) (heap_alloc2_new wr _ _)) (by simp [Value.oneCell']) (by omega) hbig (by omega) (by simp; omega) (wr.heap.size + 2) (by simp) ?_; intro g2 cap2 w2 hown1 hgrow hat' hlt'; have ct := t_cell hown hgrow)
                          go_roundw
                          case rel => exact ⟨i + zs.length, acc ++ [⟨1, i, i + zs.length, 0⟩], by congr 1, HR.out.push ⟨1, i, i + zs.length, 0⟩ hgrow hown1 (i + zs.length) m (by omega) (by omega) (by omega) HN3.out⟩
                          case measure => simp only [RowKit.intOf]; omega
                      · rw [hdg] at cDg HN2
                        rw [if_pos rfl] at HN2
                        refine (cDg _).mono ?_
                        rintro e w' ⟨rfl, rfl⟩
                        have hcapi : ¬ (cap = i) := by omega
                        have hz : ∀ z ∈ zs, z ≤ 1114111 := fun z hz => by
                          obtain ⟨j, hj, rfl⟩ := List.mem_iff_getElem.1 hz
                          obtain ⟨h', e⟩ := HZ5.out j hj
                          rw [← e]
                          exact HZ.out _ (List.getElem_mem h')
                        have cV : ∀ o, Calls Tryd.prog 14 #[.slice (some ⟨g, i, none⟩) zs.length (cap - i)] (wr.alloc o) _ := fun o => rvalue_pos zs g i (cap - i) (wr.alloc o) z1 (by omega) (by omega) hz (fun j hj => by
                          obtain ⟨h', e⟩ := HZ5.out j hj
                          rw [← e]
                          exact cell_past (HCW.out (i + j) h') o)
                        generalize valE zs = E at *
                        generalize valW zs = W at *
                        by_cases hE : E = 0
                        · subst hE
                          rw [if_neg (by simp)] at HN2
                          have HN3 : Hid (refG m (rs.drop (i + zs.length)) (i + zs.length) (acc ++ [⟨2, i, i + zs.length, W⟩]) = ANS) := HN2
                          clear HN2 hdg hz
                          go_wp2_with fail
                          refine (cV _).mono ?_
                          rintro e w' ⟨rfl, rfl⟩
                          go_wp2_with (at_builtin; refine wpList_append_lies _ rfl (.tmp 99) (.tmp 101) 27 rfl w1.heap.size 34 i0 _ 4 32 Tryd.underlying27 hi0 hz0 hz1 hz2 rfl (by omega) u7 acc.length (rtCells acc) rfl ((hown.alloc _).alloc _) ⟨wr.heap.size + 1, 0, none⟩ 1 1 [.int .i64 2, .int .i64 i, .int .i64 ((i : Int) + (zs.length : Int)), .int .u64 W] rfl rfl (World.news_of_block (cs := #[.int .i64 2, .int .i64 i, .int .i64 ((i : Int) + (zs.length : Int)), .int .u64 W]) (t := 34) (fr := (0, 0)) (heap_alloc2_new wr _ _)) (by simp [Value.oneCell']) (by omega) hbig (by omega) (by simp; omega) (wr.heap.size + 2) (by simp) ?_; intro g2 cap2 w2 hown1 hgrow hat' hlt'; have ct := t_cell hown hgrow)
                          go_roundw
                          case rel => exact ⟨i + zs.length, acc ++ [⟨2, i, i + zs.length, W⟩], by congr 1, HR.out.push ⟨2, i, i + zs.length, W⟩ hgrow hown1 (i + zs.length) m (by omega) (by omega) (by omega) HN3.out⟩
                          case measure => simp only [RowKit.intOf]; omega
                        · rw [if_pos hE] at HN2
                          have HN3 : Hid (ANS = ([], E, i)) := HN2.symm
                          have hEz : ¬ ((E : Int) = 0) := by omega
                          clear HN2 hdg hz hE
                          go_wp2_with fail
                          refine (cV _).mono ?_
                          rintro e w' ⟨rfl, rfl⟩
                          go_wp2
                          go_ret3
                          exact leftR_nil E i HN3.out (below_tr HB1.out (HR.out.below.alloc hbel _))
        · have he : i = rs.length := by omega
          obtain ⟨n, hn1, hn2⟩ := hR.ans
          rw [List.drop_eq_nil_of_le (by omega), refG_nil] at hn2
          have HN2 : Hid (ANS = (acc, 0, 0)) := hn2.symm
          have HR : Hid (Rt w1 rs i u7 acc ANS wr) := hR
          have hi1z : ¬ (i : Int) < (rs.length : Int) := by omega
          clear hn2 hR HC
          go_wp2
          go_ret3
          rw [HN2.out]
          exact ⟨_, rfl, ownsRow_base HR.out.owns HB1.out.size, below_tr HB1.out HR.out.below⟩
end Go.Proofs.YtbpahdgkedfmdaaDoor
