/- LexTokens (P2.1, P2.2), for inputs up to the bulk of its '..Upto' row: any bytes are the document's tokens, or refused by its first fault, at its character. -/
import Derived.Test.YtbpahdgkedfmdaaDoorRefTok
import Derived.Test.YtbpahdgkedfmdaaDoorTextsMath
import Derived.Test.YtbpahdgkedfmdaaDoorLexAnchor
import Derived.Test.YtbpahdgkedfmdaaDoorLaidFrame
namespace Go.Proofs.YtbpahdgkedfmdaaDoor.lexTokens
open Go.ChangeShapes Go.WideShapes Go.ChangeAt Go.RowKit Go.Lib
open Go.ChangeMaps (open_string shut_string)

theorem rcount_any (s : ByteArray) (w : World) (hs : s.size ≤ 1048576) :
    Calls Tryd.prog 11 #[.string s] w fun e w' => e = .returned (.tuple #[.int .i64 (charsOf s.data.toList).length, .bool (validD s.data.toList)]) ∧ Below w.heap.size w w' := by
  have cC := chars_any s w hs
  generalize charsOf s.data.toList = rs at *
  generalize validD s.data.toList = V at *
  go_enter Tryd.func11, Tryd.ntmps11
  go_wp2_with fail
  refine cC.mono ?_
  rintro e w1 ⟨v, rfl, hown, hb⟩
  obtain ⟨ao, cap, rfl, _, _⟩ := int_form hown
  clear hown
  go_wp2
  go_ret2
  exact ⟨rfl, hb⟩

theorem count_chars (l : List UInt8) : countS l = (charsOf l).length := by
  unfold countS charsOf
  split <;> simp

theorem rtCells_get : ∀ (rs : List RTok) (k : Nat) (hk : k < rs.length) (j : Nat), j < 4 → (rtCells rs)[k * 4 + j]? = (rCells rs[k])[j]?
  | t :: ts, 0, _, j, hj => by
    show (rCells t ++ rtCells ts)[0 * 4 + j]? = _
    rw [List.getElem?_append_left (by simp [rCells]; omega), Nat.zero_mul, Nat.zero_add]
    rfl
  | t :: ts, k + 1, hk, j, hj => by
    show (rCells t ++ rtCells ts)[(k + 1) * 4 + j]? = _
    rw [List.getElem?_append_right (by simp [rCells]; omega)]
    have e : (k + 1) * 4 + j - (rCells t).length = k * 4 + j := by simp [rCells]; omega
    rw [e, rtCells_get ts k (by simpa using hk) j hj]
    rfl
theorem rown_form {w : World} {base : Nat} {v : Value} {rs : List RTok} (h : w.ownsRow base 34 4 v rs.length (rtCells rs)) :
    ∃ ao cap, v = .slice ao rs.length cap ∧ rs.length ≤ maxLen ∧ ∀ k (hk : k < rs.length), ∃ g, ao = some ⟨g, 0, none⟩ ∧ g < w.heap.size ∧
      w.cell? ⟨g, k * 4, none⟩ = some (.int .i64 rs[k].kind) ∧ w.cell? ⟨g, k * 4 + 1, none⟩ = some (.int .i64 rs[k].from_) ∧ w.cell? ⟨g, k * 4 + 2, none⟩ = some (.int .i64 rs[k].to_) ∧ w.cell? ⟨g, k * 4 + 3, none⟩ = some (.int .u64 rs[k].word) := by
  rcases h.2 with ⟨h1, h2⟩ | ⟨g, cap, cur, h1, h2, h3, h4, h5, _⟩
  · exact ⟨none, 0, by rw [h1, h2], by omega, fun k hk => by omega⟩
  · have hb : v.ownBlock = some g := by rw [h1]; rfl
    have hc : ∀ j u, (rtCells rs)[j]? = some u → w.cell? ⟨g, j, none⟩ = some u := fun j u hu => by
      have := h.cells hb j u hu
      have hadd : (⟨g, 0, none⟩ : Addr).add j = ⟨g, j, none⟩ := by unfold Addr.add; split <;> simp_all
      rwa [hadd] at this
    refine ⟨_, cap, h1, by omega, fun k hk => ⟨g, rfl, ?_, ?_, ?_, ?_, ?_⟩⟩
    · exact (h.lt g hb).2
    · exact hc _ _ (rtCells_get rs k hk 0 (by omega))
    · exact hc _ _ (rtCells_get rs k hk 1 (by omega))
    · exact hc _ _ (rtCells_get rs k hk 2 (by omega))
    · exact hc _ _ (rtCells_get rs k hk 3 (by omega))

theorem text_le_tlen : ∀ (toks : List Tok) (k : Nat) (hk : k < toks.length), toks[k].text.length ≤ tlen toks
  | t :: ts, 0, _ => by simp [tlen]
  | t :: ts, k + 1, hk => by
    have hk' : k < ts.length := by simpa using hk
    have h1 := text_le_tlen ts k hk'
    have h2 : tlen (t :: ts) = t.text.length + tlen ts := by simp [tlen]
    rw [h2]
    show ts[k].text.length ≤ _
    omega
theorem lexS_tlen (l : List UInt8) : tlen (lexS l).1 ≤ l.length := by
  unfold lexS
  split
  · simp [tlen]
  · split
    · simp [tlen]
    · have := lexM_len (chs l) 0 [] []
      have e : bytesOf (chs l) = l := chs_bytes l
      rw [e] at this
      simpa [tlen, bytesOf] using this
theorem fit_snoc {acc : List RTok} (h : ∀ r ∈ acc, r.from_ ≤ r.to_) (t : RTok) (ht : t.from_ ≤ t.to_) : ∀ r ∈ acc ++ [t], r.from_ ≤ r.to_ := fun r hr => by
  rcases List.mem_append.1 hr with hr | hr
  · exact h r hr
  · simp at hr; subst hr; exact ht
theorem refG_fit : ∀ (n : Nat) (cs : List Nat) (i : Nat) (acc : List RTok), (∀ r ∈ acc, r.from_ ≤ r.to_) → ∀ r ∈ (refG n cs i acc).1, r.from_ ≤ r.to_
  | 0, _, _, _, h => h
  | _ + 1, [], _, _, h => h
  | n + 1, c :: cs, i, acc, h => by
    have hnil : ∀ r ∈ ([] : List RTok), r.from_ ≤ r.to_ := fun r hr => by cases hr
    rw [refG_cons]
    split
    · exact h
    · split
      · exact refG_fit n _ _ _ h
      · split
        · split
          · exact refG_fit n _ _ _ (fit_snoc h _ (by simp))
          · exact hnil
        · split
          · split
            · exact hnil
            · exact refG_fit n _ _ _ (fit_snoc h _ (by simp))
          · split
            · exact hnil
            · exact refG_fit n _ _ _ (fit_snoc h _ (by simp))
theorem refS_fit (l : List UInt8) : ∀ r ∈ (refS l).1, r.from_ ≤ r.to_ := by
  have hnil : ∀ r ∈ ([] : List RTok), r.from_ ≤ r.to_ := fun r hr => by cases hr
  unfold refS
  split
  · exact hnil
  · split
    · exact hnil
    · exact refG_fit _ _ _ _ hnil

/-- The two tokens at hand, in two new blocks. -/
theorem two_cells (wr : World) (a b c d x y z u : Value) (t1 t2 : TypeId) (wA : World) (h : wA = (wr.alloc (.cells #[a, b, c, d] t1)).alloc (.cells #[x, y, z, u] t2)) :
    wA.cell? ⟨wr.heap.size, 0, none⟩ = some a ∧ wA.cell? ⟨wr.heap.size, 1, none⟩ = some b ∧ wA.cell? ⟨wr.heap.size, 2, none⟩ = some c ∧ wA.cell? ⟨wr.heap.size, 3, none⟩ = some d ∧
    wA.cell? ⟨wr.heap.size + 1, 0, none⟩ = some x ∧ wA.cell? ⟨wr.heap.size + 1, 1, none⟩ = some y ∧ wA.cell? ⟨wr.heap.size + 1, 2, none⟩ = some z ∧ wA.cell? ⟨wr.heap.size + 1, 3, none⟩ = some u := by
  have h1 : wA.heap[wr.heap.size]? = some (.cells #[a, b, c, d] t1) := by rw [h]; exact heap_alloc2_old _ _ _
  have h2 : wA.heap[wr.heap.size + 1]? = some (.cells #[x, y, z, u] t2) := by rw [h]; exact heap_alloc2_new _ _ _
  unfold World.cell?
  simp [h1, h2]
theorem below_drew1 {B : Nat} {a w : World} (h : Below B a w) : Below B a w.drew := h.drew

set_option maxRecDepth 100000 in
set_option maxHeartbeats 16000000 in
theorem walk (s : ByteArray) (w : World) (_ : s.size ≤ maxLen) (hu : s.size ≤ 1048576) (hT : Tabs w) :
    Calls Tryd.prog 3 #[.string s] w fun e w' => e = .returned (.bool true) ∧ Below w.heap.size w w' := by
  have cA := anchor_any w hT
  by_cases hlen : 1000 < s.size ∧ s.size ≤ 16384
  · obtain ⟨h1, h2⟩ := hlen
    go_enter Tryd.func3, Tryd.ntmps3
    go_wp2_with (go_at_call 7; refine cA.mono ?_; rintro e w1 ⟨rfl, hb⟩)
    go_ret
    exact ⟨rfl, hb⟩
  · have cT := fun w1 (h : Tabs w1) => tokens_any s w1 (by omega) h
    have cR := fun w1 => rtokens_any s w1 hu
    have cN := fun w1 => rcount_any s w1 hu
    have cV := fun w1 (h : Tabs w1) => told_any s w1 (by omega) h
    have cC := fun w1 (h : Tabs w1) => count_any s w1 (by omega) h
    have hS := lexS_refS s.data.toList
    have hfit := refS_fit s.data.toList
    have htl := lexS_tlen s.data.toList
    rw [← size_eq] at htl
    rw [count_chars] at cC
    have hvc : validD s.data.toList = false → (charsOf s.data.toList).length = 0 := fun h => by unfold charsOf; rw [h]; rfl
    have hcl : (charsOf s.data.toList).length ≤ 1048576 := by have := charsOf_len s.data.toList; rw [← size_eq] at this; omega
    generalize (charsOf s.data.toList).length = cn at *
    generalize validD s.data.toList = V at *
    generalize lexS s.data.toList = ANS at *
    generalize refS s.data.toList = BNS at *
    obtain ⟨toks, E, A⟩ := ANS
    obtain ⟨rtoks, E', A'⟩ := BNS
    obtain ⟨hal, heq⟩ := hS
    simp only [Prod.mk.injEq] at heq
    obtain ⟨rfl, rfl⟩ := heq
    simp only at hal htl hfit
    have hll := alikeAll_len hal
    have HAL : Hid (∀ k (hk : k < toks.length), ∃ hk' : k < rtoks.length, Alike toks[k] rtoks[k] ∧ toks[k].text.length ≤ 1048576 ∧ rtoks[k].from_ ≤ rtoks[k].to_) := fun k hk => ⟨by omega, alikeAll_get hal k hk (by omega), by have := text_le_tlen toks k hk; omega, hfit _ (List.getElem_mem _)⟩
    have HVC : Hid (V = false → cn = 0) := hvc
    clear hal htl hvc hfit
    have hg1 : (decide (1000 < s.size ∧ s.size ≤ 16384)) = false := decide_eq_false hlen
    rcases (by omega : ¬ (1000 < s.size) ∨ (1000 < s.size ∧ ¬ (s.size ≤ 16384))) with hl1 | ⟨hl1, hl2⟩
    · go_enter Tryd.func3, Tryd.ntmps3
      go_wp2_with (go_at_call 7; refine cA.mono ?_; rintro e w1 ⟨rfl, hb1⟩)
      refine (cT w1 (hT.below hb1)).mono ?_
      rintro e w2 ⟨v, rfl, hown, hb2⟩
      have hB2 := below_tr hb1 hb2
      go_wp2_with fail
      refine (cR w2).mono ?_
      rintro e w3 ⟨v3, rfl, hown3, hb3⟩
      have hB3 := below_tr hB2 hb3
      obtain ⟨ao, cap, rfl, _, hcells⟩ := own_form hown
      obtain ⟨ao2, cap2, rfl, hmx, hcells2⟩ := rown_form hown3
      simp only at hcells hcells2 hmx
      have HC : Hid (∀ k (hk : k < toks.length), ∃ g g2, ao = some ⟨g, 0, none⟩ ∧ ao2 = some ⟨g2, 0, none⟩ ∧ toks[k].text.length ≤ 1048576 ∧ ∃ kd wo aa to_ : Nat, aa ≤ to_ ∧ validD toks[k].text = true ∧ to_ - aa = (chs toks[k].text).length ∧
          w3.cell? ⟨g, k * 4, none⟩ = some (.int .i64 kd) ∧ w3.cell? ⟨g, k * 4 + 1, none⟩ = some (.string ⟨toks[k].text.toArray⟩) ∧ w3.cell? ⟨g, k * 4 + 2, none⟩ = some (.int .u64 wo) ∧ w3.cell? ⟨g, k * 4 + 3, none⟩ = some (.int .i64 aa) ∧
          w3.cell? ⟨g2, k * 4, none⟩ = some (.int .i64 kd) ∧ w3.cell? ⟨g2, k * 4 + 1, none⟩ = some (.int .i64 aa) ∧ w3.cell? ⟨g2, k * 4 + 2, none⟩ = some (.int .i64 to_) ∧ w3.cell? ⟨g2, k * 4 + 3, none⟩ = some (.int .u64 wo)) := by
        show ∀ k (hk : k < toks.length), _
        intro k hk
        obtain ⟨hk', ⟨a1, a2, a3, a4, a5⟩, htx, hft⟩ := HAL.out k hk
        obtain ⟨g, hg, _, c0, c1, c2, c3⟩ := hcells k hk
        obtain ⟨g2, hg2, _, x0, x1, x2, x3⟩ := hcells2 k hk'
        refine ⟨g, g2, hg, hg2, htx, toks[k].kind, toks[k].word, toks[k].at_, rtoks[k].to_, ?_, a4, ?_, cell_later hb3 c0, cell_later hb3 c1, cell_later hb3 c2, cell_later hb3 c3, ?_, ?_, x2, ?_⟩
        · rw [a2]; exact hft
        · rw [a2, a5]
        · rw [a1]; exact x0
        · rw [a2]; exact x1
        · rw [a3]; exact x3
      have hmx2 : toks.length ≤ 9223372036854775807 := by rw [hll]; exact hmx
      rw [← hll]
      clear hcells hcells2 hown hown3 cT cR cA hb1 hb2 hb3 hmx HAL hB2 hll
      have hT3 : Tabs w3 := hT.below hB3
      have HB3 : Hid (Below w.heap.size w w3) := hB3
      clear hB3 hT
      go_wp2
      go_loopw [53] (fun i wr => ∃ (k : Nat), k ≤ toks.length ∧ i = .int .i64 k ∧ Below w3.heap.size w3 wr) (fun i _ => toks.length - (RowKit.intOf i).toNat)
      case atStart => exact ⟨0, Nat.zero_le _, rfl, Below.refl _ _⟩
      case round =>
        obtain ⟨k, hk, rfl, hbr⟩ := hrel
        have hTr : Tabs wr := hT3.below hbr
        by_cases hlt : k < toks.length
        · obtain ⟨g, g2, rfl, rfl, htx, kd, wo, aa, to_, hat, hvt, hcnt, c0, c1, c2, c3, x0, x1, x2, x3⟩ := HC.out k hlt
          have c0 := cell_later hbr c0
          have c1 := cell_later hbr c1
          have c2 := cell_later hbr c2
          have c3 := cell_later hbr c3
          have x0 := fun o => cell_past (cell_later hbr x0) o
          have x1 := fun o => cell_past (cell_later hbr x1) o
          have x2 := fun o => cell_past (cell_later hbr x2) o
          have x3 := fun o => cell_past (cell_later hbr x3) o
          have hcs : countS toks[k].text = to_ - aa := by unfold countS; rw [hvt, if_pos rfl, hcnt]
          have hcb : (chs toks[k].text).length ≤ 1048576 := Nat.le_trans (chs_len_le _) htx
          clear hvt
          generalize toks[k].text = tt at *
          obtain ⟨TT, hTT⟩ : ∃ TT : ByteArray, TT = ⟨tt.toArray⟩ := ⟨_, rfl⟩
          have hTs2 : TT.size ≤ 1048576 := by rw [hTT]; show tt.toArray.size ≤ _; simpa using htx
          have cK := fun w1 (h : Tabs w1) => count_any TT w1 (by omega) h
          have eTT : TT.data.toList = tt := by rw [hTT]
          rw [eTT, hcs] at cK
          rw [← hTT] at c1
          clear hTT eTT hcs htx
          have hk0 : (0 : Int) ≤ (k : Int) := by omega
          have hk1 : (k : Int) < (toks.length : Int) := by omega
          go_wp2_with fail
          obtain ⟨wA, hwA⟩ : ∃ wA, wA = (wr.alloc (.cells #[.int .i64 kd, .string TT, .int .u64 wo, .int .i64 aa] 32)).alloc (.cells #[.int .i64 kd, .int .i64 aa, .int .i64 to_, .int .u64 wo] 34) := ⟨_, rfl⟩
          obtain ⟨a0, a1, a2, a3, b0, b1, b2, b3⟩ := two_cells wr _ _ _ _ _ _ _ _ _ _ wA hwA
          have hbA : Below wr.heap.size wr wA := by rw [hwA]; exact ((Below.refl _ _).alloc (Nat.le_refl _) _).alloc (by simp) _
          rw [← hwA]
          clear hwA c0 c1 c2 c3 x0 x1 x2 x3
          have hTA : Tabs wA := hTr.below hbA
          have hsub : ((to_ - aa : Nat) : Int) = (to_ : Int) - (aa : Int) := by omega
          have hb0 : Below wA.heap.size wA wA := Below.refl _ _
          rw [hsub] at cK
          have hwrap : IntKind.i64.wrap ((to_ : Int) - (aa : Int)) = (to_ : Int) - (aa : Int) := by
            have h1 : (to_ : Int) - (aa : Int) ≤ 1048576 := by omega
            have h0 : 0 ≤ (to_ : Int) - (aa : Int) := by omega
            rw [IntKind.wrap_i64]
            omega
          have HBR : Hid (Below w3.heap.size w3 wA) := below_tr hbr hbA
          clear hcnt hcb hsub
          generalize wr.heap.size = N at *
          go_region_held3 (fun w' => w'.cell? ⟨N, 0, none⟩ = some (.int .i64 kd) ∧ w'.cell? ⟨N, 1, none⟩ = some (.string TT) ∧ w'.cell? ⟨N, 2, none⟩ = some (.int .u64 wo) ∧ w'.cell? ⟨N, 3, none⟩ = some (.int .i64 aa) ∧ w'.cell? ⟨N + 1, 0, none⟩ = some (.int .i64 kd) ∧ w'.cell? ⟨N + 1, 1, none⟩ = some (.int .i64 aa) ∧ w'.cell? ⟨N + 1, 2, none⟩ = some (.int .i64 to_) ∧ w'.cell? ⟨N + 1, 3, none⟩ = some (.int .u64 wo) ∧ Below wA.heap.size wA w')
            ((go_split_ands; refine ⟨?_, ?_, ?_, ?_, ?_, ?_, ?_, ?_, ?_⟩ <;> first | (with_reducible assumption) | (with_reducible exact cell_later hbm (by with_reducible assumption)) | (with_reducible exact below_tr (by with_reducible assumption) hbm) | exact a0 | exact a1 | exact a2 | exact a3 | exact b0 | exact b1 | exact b2 | exact b3 | exact Below.drew (by with_reducible assumption)))
            (first
              | (go_at_call 10; refine (cK _ ?_).mono ?_; (refine Tabs.below hTA ?_; go_split_ands; with_reducible assumption); rintro e w' ⟨rfl, hbm⟩))
          all_goals go_wp2
          have hh : Below wA.heap.size wA w' := by go_split_ands; assumption
          go_roundw
          case rel => exact ⟨k + 1, by omega, by congr 1, below_tr HBR.out hh⟩
          case measure => simp only [RowKit.intOf]; omega
        · have hkz : ¬ (k : Int) < (toks.length : Int) := by omega
          have hBr : Below w.heap.size w wr := below_tr HB3.out hbr
          clear HC
          go_wp2_with fail
          refine (cN wr).mono ?_
          rintro e w4 ⟨rfl, hb4⟩
          have hT4 : Tabs w4 := hTr.below hb4
          have hB4 := below_tr hBr hb4
          clear hb4
          cases V
          · have hc0 := HVC.out rfl
            subst hc0
            go_wp2_with fail
            refine (cV w4 hT4).mono ?_
            rintro e w5 ⟨rfl, hb5⟩
            have hT5 : Tabs w5 := hT4.below hb5
            have hB5 := below_tr hB4 hb5
            clear hb5
            go_wp2_with fail
            refine (cC w5 hT5).mono ?_
            rintro e w6 ⟨rfl, hb6⟩
            go_wp2
            go_ret
            exact ⟨by first | rfl | (refine ret_bool ?_; simp), below_tr hB5 hb6⟩
          · go_wp2_with fail
            refine (cV w4 hT4).mono ?_
            rintro e w5 ⟨rfl, hb5⟩
            have hT5 : Tabs w5 := hT4.below hb5
            have hB5 := below_tr hB4 hb5
            clear hb5
            go_wp2_with fail
            refine (cC w5 hT5).mono ?_
            rintro e w6 ⟨rfl, hb6⟩
            go_wp2
            go_ret
            exact ⟨by first | rfl | (refine ret_bool ?_; simp), below_tr hB5 hb6⟩
    · go_enter Tryd.func3, Tryd.ntmps3
      go_wp2_with (go_at_call 7; refine cA.mono ?_; rintro e w1 ⟨rfl, hb1⟩)
      refine (cT w1 (hT.below hb1)).mono ?_
      rintro e w2 ⟨v, rfl, hown, hb2⟩
      have hB2 := below_tr hb1 hb2
      go_wp2_with fail
      refine (cR w2).mono ?_
      rintro e w3 ⟨v3, rfl, hown3, hb3⟩
      have hB3 := below_tr hB2 hb3
      obtain ⟨ao, cap, rfl, _, hcells⟩ := own_form hown
      obtain ⟨ao2, cap2, rfl, hmx, hcells2⟩ := rown_form hown3
      simp only at hcells hcells2 hmx
      have HC : Hid (∀ k (hk : k < toks.length), ∃ g g2, ao = some ⟨g, 0, none⟩ ∧ ao2 = some ⟨g2, 0, none⟩ ∧ toks[k].text.length ≤ 1048576 ∧ ∃ kd wo aa to_ : Nat, aa ≤ to_ ∧ validD toks[k].text = true ∧ to_ - aa = (chs toks[k].text).length ∧
          w3.cell? ⟨g, k * 4, none⟩ = some (.int .i64 kd) ∧ w3.cell? ⟨g, k * 4 + 1, none⟩ = some (.string ⟨toks[k].text.toArray⟩) ∧ w3.cell? ⟨g, k * 4 + 2, none⟩ = some (.int .u64 wo) ∧ w3.cell? ⟨g, k * 4 + 3, none⟩ = some (.int .i64 aa) ∧
          w3.cell? ⟨g2, k * 4, none⟩ = some (.int .i64 kd) ∧ w3.cell? ⟨g2, k * 4 + 1, none⟩ = some (.int .i64 aa) ∧ w3.cell? ⟨g2, k * 4 + 2, none⟩ = some (.int .i64 to_) ∧ w3.cell? ⟨g2, k * 4 + 3, none⟩ = some (.int .u64 wo)) := by
        show ∀ k (hk : k < toks.length), _
        intro k hk
        obtain ⟨hk', ⟨a1, a2, a3, a4, a5⟩, htx, hft⟩ := HAL.out k hk
        obtain ⟨g, hg, _, c0, c1, c2, c3⟩ := hcells k hk
        obtain ⟨g2, hg2, _, x0, x1, x2, x3⟩ := hcells2 k hk'
        refine ⟨g, g2, hg, hg2, htx, toks[k].kind, toks[k].word, toks[k].at_, rtoks[k].to_, ?_, a4, ?_, cell_later hb3 c0, cell_later hb3 c1, cell_later hb3 c2, cell_later hb3 c3, ?_, ?_, x2, ?_⟩
        · rw [a2]; exact hft
        · rw [a2, a5]
        · rw [a1]; exact x0
        · rw [a2]; exact x1
        · rw [a3]; exact x3
      have hmx2 : toks.length ≤ 9223372036854775807 := by rw [hll]; exact hmx
      rw [← hll]
      clear hcells hcells2 hown hown3 cT cR cA hb1 hb2 hb3 hmx HAL hB2 hll
      have hT3 : Tabs w3 := hT.below hB3
      have HB3 : Hid (Below w.heap.size w w3) := hB3
      clear hB3 hT
      go_wp2
      go_loopw [53] (fun i wr => ∃ (k : Nat), k ≤ toks.length ∧ i = .int .i64 k ∧ Below w3.heap.size w3 wr) (fun i _ => toks.length - (RowKit.intOf i).toNat)
      case atStart => exact ⟨0, Nat.zero_le _, rfl, Below.refl _ _⟩
      case round =>
        obtain ⟨k, hk, rfl, hbr⟩ := hrel
        have hTr : Tabs wr := hT3.below hbr
        by_cases hlt : k < toks.length
        · obtain ⟨g, g2, rfl, rfl, htx, kd, wo, aa, to_, hat, hvt, hcnt, c0, c1, c2, c3, x0, x1, x2, x3⟩ := HC.out k hlt
          have c0 := cell_later hbr c0
          have c1 := cell_later hbr c1
          have c2 := cell_later hbr c2
          have c3 := cell_later hbr c3
          have x0 := fun o => cell_past (cell_later hbr x0) o
          have x1 := fun o => cell_past (cell_later hbr x1) o
          have x2 := fun o => cell_past (cell_later hbr x2) o
          have x3 := fun o => cell_past (cell_later hbr x3) o
          have hcs : countS toks[k].text = to_ - aa := by unfold countS; rw [hvt, if_pos rfl, hcnt]
          have hcb : (chs toks[k].text).length ≤ 1048576 := Nat.le_trans (chs_len_le _) htx
          clear hvt
          generalize toks[k].text = tt at *
          obtain ⟨TT, hTT⟩ : ∃ TT : ByteArray, TT = ⟨tt.toArray⟩ := ⟨_, rfl⟩
          have hTs2 : TT.size ≤ 1048576 := by rw [hTT]; show tt.toArray.size ≤ _; simpa using htx
          have cK := fun w1 (h : Tabs w1) => count_any TT w1 (by omega) h
          have eTT : TT.data.toList = tt := by rw [hTT]
          rw [eTT, hcs] at cK
          rw [← hTT] at c1
          clear hTT eTT hcs htx
          have hk0 : (0 : Int) ≤ (k : Int) := by omega
          have hk1 : (k : Int) < (toks.length : Int) := by omega
          go_wp2_with fail
          obtain ⟨wA, hwA⟩ : ∃ wA, wA = (wr.alloc (.cells #[.int .i64 kd, .string TT, .int .u64 wo, .int .i64 aa] 32)).alloc (.cells #[.int .i64 kd, .int .i64 aa, .int .i64 to_, .int .u64 wo] 34) := ⟨_, rfl⟩
          obtain ⟨a0, a1, a2, a3, b0, b1, b2, b3⟩ := two_cells wr _ _ _ _ _ _ _ _ _ _ wA hwA
          have hbA : Below wr.heap.size wr wA := by rw [hwA]; exact ((Below.refl _ _).alloc (Nat.le_refl _) _).alloc (by simp) _
          rw [← hwA]
          clear hwA c0 c1 c2 c3 x0 x1 x2 x3
          have hTA : Tabs wA := hTr.below hbA
          have hsub : ((to_ - aa : Nat) : Int) = (to_ : Int) - (aa : Int) := by omega
          have hb0 : Below wA.heap.size wA wA := Below.refl _ _
          rw [hsub] at cK
          have hwrap : IntKind.i64.wrap ((to_ : Int) - (aa : Int)) = (to_ : Int) - (aa : Int) := by
            have h1 : (to_ : Int) - (aa : Int) ≤ 1048576 := by omega
            have h0 : 0 ≤ (to_ : Int) - (aa : Int) := by omega
            rw [IntKind.wrap_i64]
            omega
          have HBR : Hid (Below w3.heap.size w3 wA) := below_tr hbr hbA
          clear hcnt hcb hsub
          generalize wr.heap.size = N at *
          go_region_held3 (fun w' => w'.cell? ⟨N, 0, none⟩ = some (.int .i64 kd) ∧ w'.cell? ⟨N, 1, none⟩ = some (.string TT) ∧ w'.cell? ⟨N, 2, none⟩ = some (.int .u64 wo) ∧ w'.cell? ⟨N, 3, none⟩ = some (.int .i64 aa) ∧ w'.cell? ⟨N + 1, 0, none⟩ = some (.int .i64 kd) ∧ w'.cell? ⟨N + 1, 1, none⟩ = some (.int .i64 aa) ∧ w'.cell? ⟨N + 1, 2, none⟩ = some (.int .i64 to_) ∧ w'.cell? ⟨N + 1, 3, none⟩ = some (.int .u64 wo) ∧ Below wA.heap.size wA w')
            ((go_split_ands; refine ⟨?_, ?_, ?_, ?_, ?_, ?_, ?_, ?_, ?_⟩ <;> first | (with_reducible assumption) | (with_reducible exact cell_later hbm (by with_reducible assumption)) | (with_reducible exact below_tr (by with_reducible assumption) hbm) | exact a0 | exact a1 | exact a2 | exact a3 | exact b0 | exact b1 | exact b2 | exact b3 | exact Below.drew (by with_reducible assumption)))
            (first
              | (go_at_call 10; refine (cK _ ?_).mono ?_; (refine Tabs.below hTA ?_; go_split_ands; with_reducible assumption); rintro e w' ⟨rfl, hbm⟩))
          all_goals go_wp2
          have hh : Below wA.heap.size wA w' := by go_split_ands; assumption
          go_roundw
          case rel => exact ⟨k + 1, by omega, by congr 1, below_tr HBR.out hh⟩
          case measure => simp only [RowKit.intOf]; omega
        · have hkz : ¬ (k : Int) < (toks.length : Int) := by omega
          have hBr : Below w.heap.size w wr := below_tr HB3.out hbr
          clear HC
          go_wp2_with fail
          refine (cN wr).mono ?_
          rintro e w4 ⟨rfl, hb4⟩
          have hT4 : Tabs w4 := hTr.below hb4
          have hB4 := below_tr hBr hb4
          clear hb4
          cases V
          · have hc0 := HVC.out rfl
            subst hc0
            go_wp2_with fail
            refine (cV w4 hT4).mono ?_
            rintro e w5 ⟨rfl, hb5⟩
            have hT5 : Tabs w5 := hT4.below hb5
            have hB5 := below_tr hB4 hb5
            clear hb5
            go_wp2_with fail
            refine (cC w5 hT5).mono ?_
            rintro e w6 ⟨rfl, hb6⟩
            go_wp2
            go_ret
            exact ⟨by first | rfl | (refine ret_bool ?_; simp), below_tr hB5 hb6⟩
          · go_wp2_with fail
            refine (cV w4 hT4).mono ?_
            rintro e w5 ⟨rfl, hb5⟩
            have hT5 : Tabs w5 := hT4.below hb5
            have hB5 := below_tr hB4 hb5
            clear hb5
            go_wp2_with fail
            refine (cC w5 hT5).mono ?_
            rintro e w6 ⟨rfl, hb6⟩
            go_wp2
            go_ret
            exact ⟨by first | rfl | (refine ret_bool ?_; simp), below_tr hB5 hb6⟩

theorem own : ownKnob Tryd.prog.godebug = none := by kernel_rfl
theorem laidOut : laidOutB Tryd.prog = true := by kernel_rfl
theorem first_eq : Rows.laid_unicode_utf8_first = firstData := Pinned.utf8First_eq
theorem accept_eq : (Rows.laid_unicode_utf8_acceptRanges : DataW Unit) = acceptData := by kernel_rfl
/-- WHAT THE ROW's LIST GIVES: utf8's two tables. -/
theorem tabs {W : World} (h : laidMet Tryd.prog Rows.lexTokensUptoRow.laid W) : Tabs W := by
  have h1 := Lib.laidMet.reads h (n := "unicode/utf8.first") (d := Rows.laid_unicode_utf8_first) (by simp [Rows.lexTokensUptoRow])
  have h2 := Lib.laidMet.reads h (n := "unicode/utf8.acceptRanges") (d := Rows.laid_unicode_utf8_acceptRanges) (by simp [Rows.lexTokensUptoRow])
  rw [first_eq] at h1
  rw [accept_eq] at h2
  exact utf8Tabs_of_readsT (U8Types.of196 Tryd.lays196) ⟨by kernel_rfl, by kernel_rfl, by kernel_rfl, by kernel_rfl, by kernel_rfl, by kernel_rfl, by kernel_rfl⟩ h1 h2

set_option linter.unusedVariables false in
set_option maxRecDepth 100000 in
theorem contract (H : Type) (enc : TypeId × Value → H) (W : World) (base : Nat) (args : Array Value) (ds gs : List (DataW H)) (before : List MemPlace)
    (hval0 : ∀ (j : Nat) t v, Tryd.f3.params[j]? = some t → args[j]? = some v → Value.okWide Tryd.prog W .any base t v)
    (hW : DataW.Whole enc Tryd.prog Tryd.f3.params.toList Rows.lexTokensSpec.vars false W args.toList ds gs before) (hcond : Rows.uptoSmall H (ds ++ gs) = true) (hL0 : laidMetH Tryd.prog Rows.lexTokensUptoRow.laid W) :
    Calls Tryd.prog 3 args W fun e W' => ∃ v, e = .returned v ∧ Rows.lexTokensSpec.post enc Tryd.prog Tryd.f3 false true false false W args v W' := by
  have hL := hL0
  rw [MakeChecks.laidMetH_plain _ _ _ (by kernel_rfl)] at hL
  have hval := hval0
  have hW' := hW
  obtain ⟨p, q, hA0, hV, rfl, hfz, hnd⟩ := hW
  have hA : DataW.TrodAll enc Tryd.prog W 0 (fun _ => true) true Tryd.f3.params.toList args.toList ds p := hA0
  rw [Tryd.params3] at hA hval
  obtain ⟨v0, vs0, d0, ds0, p0, q0, hargs, rfl, rfl, h0, r0⟩ := trodAll_cons hA
  obtain ⟨rfl, rfl, rfl⟩ := trodAll_nil r0
  obtain rfl : args = #[v0] := by cases args; simp_all
  obtain ⟨rfl, rfl⟩ := trodVars_none hV
  have k0 := h0
  have lt0 : ∀ x ∈ p0, x.block < W.heap.size := by obtain ⟨m, hm⟩ := k0; exact DataW.trod_lt m _ _ _ hm
  obtain ⟨s0, rfl, e0, _, w0⟩ := open_string Tryd.underlying9 (hval 0 9 v0 rfl rfl) h0
  subst e0
  have hup := of_decide_eq_true hcond
  simp only [List.append_nil, Rows.uptoBulkAll, Rows.uptoBulk] at hup
  have u0 : s0.size ≤ 1048576 := by rw [size_eq]; omega
  clear hA0 hval0
  refine (walk s0 W w0 u0 (tabs hL)).mono fun e W' ⟨he, bel⟩ => ?_
  subst he
  exact ⟨_, rfl, _, _, _, [], _, [], hW', trodAll_mk1 (shut_bool Tryd.underlying4 _), (trodAll_cons_mk (Below.trod laidOut (by kernel_rfl) (of_decide_eq_true (by kernel_rfl)) k0 bel lt0) trodAll_mk0), rfl, bel.frame _, fun h => by cases h⟩

theorem laid_met (os : Os) : laidMet Tryd.prog Rows.lexTokensUptoRow.laid ((World.laidAll Tryd.prog os Rows.lexTokensUptoRow.laid).forCall (fun _ _ => 0) ⟨#[], #[.string ⟨#[]⟩], []⟩).memory :=
  laidMet_laidAll _ (by kernel_rfl) (by kernel_rfl)
theorem reads (os : Os) {H : Type} (enc : TypeId × Value → H) : ∃ places, DataW.whole enc Tryd.prog ((World.laidAll Tryd.prog os Rows.lexTokensUptoRow.laid).forCall (fun _ _ => 0) ⟨#[], #[.string ⟨#[]⟩], []⟩).memory Tryd.f3.params.toList Rows.lexTokensSpec.vars false (#[.string ⟨#[]⟩] : Array Value).toList 8 = some ([.lit (.string [])], [], places) :=
  ⟨[], by kernel_rfl⟩

set_option maxRecDepth 100000 in
theorem lifted (os : Os) (started : os.Started) (H : Type) (enc : TypeId × Value → H) (F : Stop.Interp) :
    ReturnsInHanded {} Tryd.checked os 3 .any ((Rows.OpenSpec.upto Rows.lexTokensSpec).preRow enc Tryd.prog Tryd.f3 Rows.lexTokensUptoRow.domain false Rows.lexTokensUptoRow.laid) (((Rows.OpenSpec.upto Rows.lexTokensSpec).at F).post enc Tryd.prog Tryd.f3 false true false false) := by
  obtain ⟨places, hx⟩ := reads os enc
  refine returnsInHanded_of_row (C := Tryd.checked) (s := (Rows.OpenSpec.upto Rows.lexTokensSpec)) own started (by kernel_rfl) Tryd.func3
    (witness_row_at (enc := enc) (C := Tryd.checked) false (World.laidAll Tryd.prog os Rows.lexTokensUptoRow.laid) #[.string ⟨#[]⟩] (World.laidAll_os _ _ _) (by kernel_rfl) (by kernel_rfl) (by kernel_rfl)
      (OpenSpec.preRow_of_cond 8 hx (by kernel_rfl) (fun k hk => by cases hk; kernel_rfl) (by kernel_rfl) (laid_met os))) ?_
  intro W base args ds gs before hval hW _ hcond _ hL _ _
  exact contract H enc W base args ds gs before hval hW (hcond _ rfl) hL

theorem said : Rows.LexTokensUptoSaid :=
  OpenClaim.holds_of_cond 3 Tryd.f3 rfl rfl rfl rfl rfl rfl rfl ⟨rfl, rfl, rfl, rfl, rfl⟩ rfl rfl rfl rfl rfl (by kernel_rfl) Tryd.func3 (by kernel_rfl)
    (of_decide_eq_true (by kernel_rfl)) (by unfold Func.isWrapper; first | (rw [if_pos (by decide +kernel)]; kernel_rfl) | (rw [if_neg (by decide +kernel)]; exact ⟨rfl, rfl⟩))
    (fun os started H enc _ F => by rw [OpenClaim.pre_eq_preRow]; exact lifted os started H enc F)

theorem plain (f : FuncId) (fn : Func) (hf : Tryd.pinned.checked.prog.funcNamed "portreeve/portreevelaw02.LexTokens" = some f) (hfn : Tryd.pinned.checked.prog.funcs[f]? = some fn) :
    false = Tryd.pinned.checked.prog.looks [] ∧ ∀ (j : Nat) t, fn.params[j]? = some t → Tryd.pinned.checked.prog.wantsStandIn t = false := by
  obtain rfl : f = 3 := Option.some.inj ((show Tryd.prog.funcNamed "portreeve/portreevelaw02.LexTokens" = some 3 by kernel_rfl).symm.trans hf) |>.symm
  obtain rfl : fn = Tryd.f3 := (Option.some.inj (Tryd.func3.symm.trans hfn)).symm
  refine ⟨by kernel_rfl, fun j t ht => ?_⟩
  rw [Tryd.params3] at ht
  have hm : t ∈ [9] := by simpa using Array.mem_of_getElem? ht
  have hall : ([9].all fun u => !Tryd.prog.wantsStandIn u) = true := by kernel_rfl
  exact (show Tryd.prog.wantsStandIn t = false by simpa using List.all_eq_true.1 hall t hm)

theorem card : Rows.LexTokensUptoCardSaid :=
  Claim7.holds_tied_plain_at .later [] _ _ _ _ said (fun _ h => by cases h) (by kernel_rfl) (fun _ h => by cases h) lexTokensUpto_row_tie rfl ⟨rfl, rfl⟩ (by kernel_rfl) rfl plain (by kernel_rfl)

end Go.Proofs.YtbpahdgkedfmdaaDoor.lexTokens
