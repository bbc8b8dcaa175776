/- The walk of lex.Tokens: any bytes are the tokens that their characters say, or the first fault. -/
import Derived.Test.YtbpahdgkedfmdaaDoorLexClose
namespace Go.Proofs.YtbpahdgkedfmdaaDoor
open Go.RowKit Go.Lib

theorem ext_toList (s : ByteArray) (a b : Nat) : (s.extract a b).data.toList = (s.data.toList.drop a).take (b - a) := by
  rw [ByteArray.data_extract, Array.toList_extract]

/-- What the loop of Tokens knows at the byte pos. -/
structure St (s : ByteArray) (pos : Nat) (toks : List Tok) (at_ : Nat) (wd : List Ch) (op : Bool) (pl fr : Nat) : Prop where
  hop : op = !wd.isEmpty
  good : ∀ c ∈ wd, Good c
  tx : wd ≠ [] → pl < pos ∧ (s.extract pl pos).data.toList = bytesOf wd ∧ fr = at_ - wd.length
  hpos : pos ≤ s.size
  hat : at_ ≤ pos
  hwd : wd.length ≤ at_
  hn : toks.length ≤ 2 * pos
  hv : validD (s.data.toList.drop pos) = true

/-- The character at a place. -/
def chAt (s : ByteArray) (pos : Nat) : Ch := ((Utf8.decode s pos).1, (s.data.toList.drop pos).take (Utf8.decode s pos).2)
theorem chs_at' (s : ByteArray) (pos : Nat) (h : pos < s.size) : chs (s.data.toList.drop pos) = chAt s pos :: chs (s.data.toList.drop (pos + (Utf8.decode s pos).2)) := chs_at s pos h
theorem step_facts (s : ByteArray) (pos : Nat) (h : pos < s.size) (hv : validD (s.data.toList.drop pos) = true) :
    Good (chAt s pos) ∧ validD (s.data.toList.drop (pos + (Utf8.decode s pos).2)) = true ∧ pos + (Utf8.decode s pos).2 ≤ s.size ∧ 1 ≤ (Utf8.decode s pos).2 := by
  have hne := drop_ne s pos h
  have hg := valid_good _ hv (chAt s pos) (by rw [chs_at' s pos h]; exact List.mem_cons_self)
  rw [validD_step _ hne] at hv
  by_cases hb : (decodeL (s.data.toList.drop pos)).1 = 65533 ∧ (decodeL (s.data.toList.drop pos)).2 = 1
  · rw [if_pos hb] at hv; cases hv
  · rw [if_neg hb, decodeL_drop, List.drop_drop] at hv
    have hl := decodeL_le _ hne
    rw [decodeL_drop, List.length_drop, ← size_eq] at hl
    exact ⟨hg, hv, by omega, width_pos s pos⟩

variable {s : ByteArray} {pos : Nat} {toks : List Tok} {at_ : Nat} {wd : List Ch} {op : Bool} {pl fr : Nat}

theorem St.part (h : St s pos toks at_ wd op pl fr) (hp : pos < s.size) (pl' fr' : Nat) (h1 : op = true → pl' = pl ∧ fr' = fr) (h0 : op = false → pl' = pos ∧ fr' = at_) :
    St s (pos + (Utf8.decode s pos).2) toks (at_ + 1) (wd ++ [chAt s pos]) true pl' fr' := by
  obtain ⟨g1, g2, g3, g4⟩ := step_facts s pos hp h.hv
  refine ⟨by simp, fun c hc => ?_, fun _ => ?_, g3, by have := h.hat; omega, by have := h.hwd; simp; omega, by have := h.hn; omega, g2⟩
  · rcases List.mem_append.1 hc with hc | hc
    · exact h.good c hc
    · simp at hc; subst hc; exact g1
  · have hb : bytesOf (wd ++ [chAt s pos]) = bytesOf wd ++ (s.data.toList.drop pos).take (Utf8.decode s pos).2 := by simp [bytesOf, chAt]
    by_cases hw : wd = []
    · have ho : op = false := by rw [h.hop, hw]; rfl
      obtain ⟨rfl, rfl⟩ := h0 ho
      rw [hb, hw, ext_toList]
      refine ⟨by omega, ?_, by simp⟩
      rw [Nat.add_sub_cancel_left]
      rfl
    · have ho : op = true := by rw [h.hop]; cases wd with | nil => exact absurd rfl hw | cons _ _ => rfl
      obtain ⟨rfl, rfl⟩ := h1 ho
      obtain ⟨t1, t2, t3⟩ := h.tx hw
      have hw' := h.hwd
      have hl := List.length_pos_iff.2 hw
      rw [hb, ← t2, ext_toList, ext_toList]
      refine ⟨by omega, ?_, by simp; omega⟩
      have e : pos + (Utf8.decode s pos).2 - pl' = (pos - pl') + (Utf8.decode s pos).2 := by omega
      rw [e, List.take_add, List.drop_drop]
      congr 2
      congr 1
      omega
theorem St.shut (h : St s pos toks at_ wd op pl fr) (hp : pos < s.size) (toks' : List Tok) (pl' fr' : Nat) (hn : toks'.length ≤ 2 * pos + 2) :
    St s (pos + (Utf8.decode s pos).2) toks' (at_ + 1) [] false pl' fr' := by
  obtain ⟨g1, g2, g3, g4⟩ := step_facts s pos hp h.hv
  exact ⟨rfl, fun _ h => (by cases h), fun h => absurd rfl h, g3, by have := h.hat; omega, by simp, by omega, g2⟩

/-! ### lexM, a step at a time -/
theorem lexM_part (c : Ch) (cs : List Ch) (a : Nat) (wd : List Ch) (acc : List Tok) (h : isPart c.1 = true) : lexM (c :: cs) a wd acc = lexM cs (a + 1) (wd ++ [c]) acc := by
  simp only [lexM, if_pos h]
theorem lexM_err (c : Ch) (cs : List Ch) (a : Nat) (wd : List Ch) (acc : List Tok) (h : isPart c.1 = false) (he : closeE wd ≠ 0) : lexM (c :: cs) a wd acc = ([], closeE wd, a - wd.length) := by
  simp only [lexM, h, Bool.false_eq_true, if_false, if_pos he]
theorem lexM_go (c : Ch) (cs : List Ch) (a : Nat) (wd : List Ch) (acc : List Tok) (h : isPart c.1 = false) (he : closeE wd = 0) : lexM (c :: cs) a wd acc =
    if c.1 = 35 then (closeT wd a acc, 0, 0) else if isSign c.1 = true then lexM cs (a + 1) [] (closeT wd a acc ++ [⟨3, c.2, 0, a⟩]) else if c.1 = 32 ∨ c.1 = 9 then lexM cs (a + 1) [] (closeT wd a acc) else ([], 61, a) := by
  simp only [lexM, h, Bool.false_eq_true, if_false, if_neg (show ¬ closeE wd ≠ 0 from fun k => k he)]
theorem lexM_end (a : Nat) (wd : List Ch) (acc : List Tok) : lexM [] a wd acc = if closeE wd ≠ 0 then ([], closeE wd, a - wd.length) else (closeT wd a acc, 0, 0) := rfl

/-! ### one contract for each method, whatever is open -/
variable {B N : Nat} {w0 : World} {v : Value}
theorem grow_any (p : Nat) (w : World) (hat : at_ < 1000000) (h : Line B N w0 s pos v toks at_ op pl fr w) :
    Calls Tryd.prog 19 #[.pointer (some ⟨N, 0, none⟩), .int .i64 p] w fun e w' => e = .returned (.tuple #[]) ∧
      ∃ pl' fr', (op = true → pl' = pl ∧ fr' = fr) ∧ (op = false → pl' = p ∧ fr' = at_) ∧ Line B N w0 s pos v toks (at_ + 1) true pl' fr' w' := by
  cases op
  · exact (grow_shut p w hat h).mono fun e w' k => ⟨k.1, p, at_, fun h => (by cases h), fun _ => ⟨rfl, rfl⟩, k.2⟩
  · exact (grow_open p w hat h).mono fun e w' k => ⟨k.1, pl, fr, fun _ => ⟨rfl, rfl⟩, fun h => (by cases h), k.2⟩
theorem close_any (pos' : Nat) (w : World) (hs : s.size ≤ 16384) (hT : ∀ w', Below B w0 w' → Tabs w') (hst : St s pos toks at_ wd op pl fr) (h : Line B N w0 s pos' v toks at_ op pl fr w) :
    Calls Tryd.prog 20 #[.pointer (some ⟨N, 0, none⟩), .string s, .int .i64 pos] w fun e w' => e = .returned (.int .i64 (closeE wd)) ∧
      ∃ v', Line B N w0 s pos' v' (if closeE wd = 0 then closeT wd at_ toks else toks) at_ false pl fr w' ∧ (wd ≠ [] → fr = at_ - wd.length) := by
  by_cases hw : wd = []
  · have ho : op = false := by rw [hst.hop, hw]; rfl
    subst ho hw
    refine (close_shut pos w h).mono fun e w' k => ⟨k.1, v, ?_, fun h => absurd rfl h⟩
    rw [← k.2]
    exact h
  · have ho : op = true := by rw [hst.hop]; cases wd with | nil => exact absurd rfl hw | cons _ _ => rfl
    subst ho
    obtain ⟨t1, t2, t3⟩ := hst.tx hw
    have hc : chs (s.extract pl pos).data.toList = wd := by rw [t2]; exact chs_flat0 wd hst.good
    have hvd : validD (s.extract pl pos).data.toList = true := by rw [t2]; exact valid_flat0 wd hst.good
    have hn := hst.hn
    have hp := hst.hpos
    have := close_open pos w t1 hst.hpos hs (by omega) (s.extract pl pos) rfl hvd hT h
    rw [hc] at this
    refine this.mono fun e w' k => ?_
    obtain ⟨k1, v', k2⟩ := k
    have e1 : closeE wd = wordE wd := by unfold closeE; rw [if_neg hw]
    have e2 : closeT wd at_ toks = toks ++ [wordT wd fr] := by unfold closeT; rw [if_neg hw, ← t3]
    rw [e1, e2]
    exact ⟨k1, v', k2, fun _ => t3⟩
theorem close_len (wd : List Ch) (a : Nat) (acc : List Tok) : (closeT wd a acc).length ≤ acc.length + 1 := by
  unfold closeT; split <;> simp
theorem ownsRow_base {w : World} {b b' : Nat} {e : TypeId} {size : Nat} {v : Value} {n : Nat} {xs : List Value} (h : w.ownsRow b e size v n xs) (hb : b' ≤ b) : w.ownsRow b' e size v n xs := by
  refine ⟨h.1, ?_⟩
  rcases h.2 with h2 | ⟨g, cap, cur, hv, hg, r⟩
  · exact .inl h2
  · exact .inr ⟨g, cap, cur, hv, by omega, r⟩

theorem below_drewN {B : Nat} {a w : World} (h : Below B a w) : ∀ q, Below B a (w.drewN q)
  | 0 => h
  | q + 1 => (below_drewN h q).drew

/-- What Tokens leaves: the answer's number and place, and a slice that owns the tokens' cells. -/
def Left3 (w : World) (ANS : List Tok × Nat × Nat) (e : Ending) (w' : World) : Prop :=
  ∃ v, e = .returned (.tuple #[v, .int .i64 ANS.2.1, .int .i64 ANS.2.2]) ∧ w'.ownsRow w.heap.size 32 4 v ANS.1.length (toksCells ANS.1) ∧ Below w.heap.size w w'
theorem left_nil {w w' : World} {ANS : List Tok × Nat × Nat} (k a : Nat) (h : ANS = ([], k, a)) (hb : Below w.heap.size w w') : Left3 w ANS (.returned (.tuple #[.slice none 0 0, .int .i64 k, .int .i64 a])) w' := by
  subst h
  exact ⟨_, rfl, World.ownsRow_nil _ _ _ _, hb⟩

set_option maxRecDepth 100000 in
set_option maxHeartbeats 16000000 in
theorem tokens_any (s : ByteArray) (w : World) (hs : s.size ≤ 9223372036854775807) (hT : Tabs w) :
    Calls Tryd.prog 8 #[.string s] w (Left3 w (lexS s.data.toList)) := by
  unfold lexS
  rw [← size_eq]
  by_cases hlen : 16384 < s.size
  · rw [if_pos hlen]
    go_enter Tryd.func8, Tryd.ntmps8
    go_wp2
    go_ret3
    exact left_nil 11 0 rfl (Below.refl _ _)
  · rw [if_neg hlen]
    have cT := told_any s w hs hT
    cases hv : validD s.data.toList
    · rw [if_pos rfl]
      rw [hv] at cT
      clear hv
      go_enter Tryd.func8, Tryd.ntmps8
      go_wp2_with (go_at_call 12; refine cT.mono ?_; rintro e w1 ⟨rfl, hb⟩)
      go_ret3
      exact left_nil 60 0 rfl hb
    · rw [if_neg (by simp)]
      rw [hv] at cT
      generalize hA : lexM (chs s.data.toList) 0 [] [] = ANS
      have HA : Hid (lexM (chs (s.data.toList.drop 0)) 0 [] [] = ANS) := hA
      have hTB : ∀ w', Below w.heap.size w w' → Tabs w' := fun w' h => hT.below h
      clear hA
      go_enter Tryd.func8, Tryd.ntmps8
      go_wp2_with (go_at_call 12; refine cT.mono ?_; rintro e w1 ⟨rfl, hb⟩)
      have hBN : w.heap.size ≤ w1.heap.size := hb.size
      have hs16 : s.size ≤ 16384 := by omega
      have HB : Hid (Below w.heap.size w w1) := hb
      clear cT hT hlen hb
      go_loopw [] (fun wr => ∃ (pos : Nat) (v : Value) (toks : List Tok) (at_ : Nat) (wd : List Ch) (op : Bool) (pl fr : Nat), Line w.heap.size w1.heap.size w s pos v toks at_ op pl fr wr ∧ St s pos toks at_ wd op pl fr ∧ Hid (lexM (chs (s.data.toList.drop pos)) at_ wd toks = ANS)) (fun wr => s.size - wr.iterPos (w1.heap.size + 1))
      case atStart =>
        refine ⟨0, .slice none 0 0, [], 0, [], false, 0, 0, ⟨?_, hBN, ?_, ?_, World.ownsRow_nil _ _ _ _⟩, ⟨rfl, fun _ h => (by cases h), fun h => absurd rfl h, by omega, Nat.le_refl _, Nat.le_refl _, Nat.le_refl _, hv⟩, HA⟩
        · exact (HB.out.alloc HB.out.size _).alloc (by simp; have := HB.out.size; omega) _
        · exact heap_alloc2_old _ _ _
        · exact heap_alloc2_new _ _ _
      case round =>
        obtain ⟨pos, v, toks, at_, wd, op, pl, fr, hL, hS, HM⟩ := hrel
        have hbd1 := hS.hat
        have hbd2 := hS.hpos
        have hbd3 := hS.hn
        clear HA hv HB
        by_cases hp : pos < s.size
        · have hnx : ∀ ty, (Instr.next (.pointer (some ⟨w1.heap.size + 1, 0, none⟩)) true ty).run Tryd.prog wr = _ := fun ty => Lib.run_next_any_at wr (w1.heap.size + 1) s pos ty hL.iter hp
          have hL2 := hL.iterAt (pos + (Utf8.decode s pos).2)
          have hP := hS.part hp
          have hQ := hS.shut hp
          have hit := hL.iter
          obtain ⟨g1, _, _, g4⟩ := step_facts s pos hp hS.hv
          have HM1 := HM.out
          rw [chs_at' s pos hp] at HM1
          have hr : (Utf8.decode s pos).1 ≤ 1114111 := rune_le s pos
          have hc1 : (chAt s pos).1 = (Utf8.decode s pos).1 := rfl
          have cL := isLetter_any (Utf8.decode s pos).1
          have cD := isDigit_any (Utf8.decode s pos).1
          have cC := close_any (pos + (Utf8.decode s pos).2) _ hs16 hTB hS hL2
          clear HM
          generalize chAt s pos = c at *
          generalize (Utf8.decode s pos).1 = r at *
          generalize (Utf8.decode s pos).2 = k at *
          clear hS
          cases hpt : isPart r
          · have hr7 : r < 128 := by
              have : ¬ (isPart r = true) := by rw [hpt]; simp
              rw [isPart_iff] at this; omega
            have hl0 : isLet r = false ∧ isDig r = false := by simpa [isPart] using hpt
            rw [hl0.1] at cL
            rw [hl0.2] at cD
            clear hl0 hP
            by_cases hE : closeE wd = 0
            · have HG := lexM_go c (chs (s.data.toList.drop (pos + k))) at_ wd toks (by rw [hc1]; exact hpt) hE
              rw [HM1, hc1] at HG
              rw [hE, if_pos rfl] at cC
              have hcl := close_len wd at_ toks
              clear HM1 hpt
              generalize closeT wd at_ toks = toksC at *
              by_cases h35 : r = 35
              · subst h35
                rw [if_pos rfl] at HG
                have HG2 : Hid (ANS = (toksC, 0, 0)) := HG
                clear HG hQ
                go_wp2_with (first | (go_at_call 17; refine (cL _).mono ?_; rintro e w' ⟨rfl, rfl⟩) | (go_at_call 18; refine (cD _).mono ?_; rintro e w' ⟨rfl, rfl⟩))
                refine cC.mono ?_
                rintro e w2 ⟨rfl, v', hL3, _⟩
                have q0 := hL3.cell 0
                simp at q0
                go_wp2
                go_ret3
                rw [HG2.out]
                exact ⟨v', rfl, ownsRow_base hL3.owns (by omega), hL3.below⟩
              · rw [if_neg h35] at HG
                cases hsg : isSign r
                · rw [hsg, if_neg (by simp)] at HG
                  by_cases hbl : r = 32 ∨ r = 9
                  · rw [if_pos hbl] at HG
                    have HG2 : Hid (lexM (chs (s.data.toList.drop (pos + k))) (at_ + 1) [] toksC = ANS) := HG.symm
                    clear HG
                    go_wp2_with (first | (go_at_call 17; refine (cL _).mono ?_; rintro e w' ⟨rfl, rfl⟩) | (go_at_call 18; refine (cD _).mono ?_; rintro e w' ⟨rfl, rfl⟩))
                    refine cC.mono ?_
                    rintro e w2 ⟨rfl, v', hL3, _⟩
                    go_wp2_with fail
                    refine (part_blank r w2 hbl (by omega) hL3).mono ?_
                    rintro e w3 ⟨rfl, hL4⟩
                    go_wp2
                    go_roundw
                    case rel => exact ⟨pos + k, v', toksC, at_ + 1, [], false, pl, fr, hL4, hQ toksC pl fr (by omega), HG2⟩
                    case measure => simp only [World.iterPos, hL4.iter, hit]; omega
                  · rw [if_neg hbl] at HG
                    have HG2 : Hid (ANS = ([], 61, at_)) := HG
                    clear HG hQ
                    go_wp2_with (first | (go_at_call 17; refine (cL _).mono ?_; rintro e w' ⟨rfl, rfl⟩) | (go_at_call 18; refine (cD _).mono ?_; rintro e w' ⟨rfl, rfl⟩))
                    refine cC.mono ?_
                    rintro e w2 ⟨rfl, v', hL3, _⟩
                    go_wp2_with fail
                    refine (part_no w1.heap.size r w2 hr7 hsg (fun h => hbl (.inl h)) (fun h => hbl (.inr h))).mono ?_
                    rintro e w3 ⟨rfl, rfl⟩
                    have q1 := hL3.cell 1
                    simp at q1
                    go_wp2
                    go_quiet (fail)
                    go_wp2
                    go_ret3
                    exact left_nil 61 at_ HG2.out (below_drewN hL3.below _)
                · rw [hsg, if_pos rfl] at HG
                  obtain ⟨b, hb1, hb2⟩ := good_low c g1 (by omega)
                  have hb3 : c.2 = [r.toUInt8] := by
                    rw [hb1]; congr 1; apply UInt8.toNat_inj.1; rw [hb2, hc1]; simp; omega
                  rw [hb3] at HG
                  have HG2 : Hid (lexM (chs (s.data.toList.drop (pos + k))) (at_ + 1) [] (toksC ++ [⟨3, [r.toUInt8], 0, at_⟩]) = ANS) := HG.symm
                  clear HG hb1 hb2 hb3
                  go_wp2_with (first | (go_at_call 17; refine (cL _).mono ?_; rintro e w' ⟨rfl, rfl⟩) | (go_at_call 18; refine (cD _).mono ?_; rintro e w' ⟨rfl, rfl⟩))
                  refine cC.mono ?_
                  rintro e w2 ⟨rfl, v', hL3, _⟩
                  go_wp2_with fail
                  refine (part_sign r w2 hr7 hsg (by omega) (by omega) hL3).mono ?_
                  rintro e w3 ⟨rfl, v4, hL4⟩
                  go_wp2
                  go_roundw
                  case rel => exact ⟨pos + k, v4, _, at_ + 1, [], false, pl, fr, hL4, hQ _ pl fr (by simp; omega), HG2⟩
                  case measure => simp only [World.iterPos, hL4.iter, hit]; omega
            · have HG := lexM_err c (chs (s.data.toList.drop (pos + k))) at_ wd toks (by rw [hc1]; exact hpt) hE
              rw [HM1] at HG
              have hwne : wd ≠ [] := fun e => hE (by rw [e]; rfl)
              have HG2 : Hid (ANS = ([], closeE wd, at_ - wd.length)) := HG
              rw [if_neg hE] at cC
              clear HM1 hpt HG hQ
              generalize closeE wd = E at *
              have hEz : ¬ ((E : Int) = 0) := by omega
              go_wp2_with (first | (go_at_call 17; refine (cL _).mono ?_; rintro e w' ⟨rfl, rfl⟩) | (go_at_call 18; refine (cD _).mono ?_; rintro e w' ⟨rfl, rfl⟩))
              refine cC.mono ?_
              rintro e w2 ⟨rfl, v', hL3, hfr⟩
              have q4 := hL3.cell 4
              simp at q4
              go_wp2
              go_quiet (fail)
              go_wp2
              go_ret3
              exact left_nil E (at_ - wd.length) HG2.out (below_drewN hL3.below _)
          · rw [lexM_part c _ _ _ _ (by rw [hc1]; exact hpt)] at HM1
            have HM2 : Hid (lexM (chs (s.data.toList.drop (pos + k))) (at_ + 1) (wd ++ [c]) toks = ANS) := HM1
            clear HM1 hQ cC
            cases hlt : isLet r
            · have hdg : isDig r = true := by simpa [isPart, hlt] using hpt
              rw [hlt] at cL
              rw [hdg] at cD
              clear hpt hlt hdg
              go_wp2_with (first | (go_at_call 17; refine (cL _).mono ?_; rintro e w' ⟨rfl, rfl⟩) | (go_at_call 18; refine (cD _).mono ?_; rintro e w' ⟨rfl, rfl⟩))
              refine (grow_any pos _ (by omega) hL2).mono ?_
              rintro e w2 ⟨rfl, pl', fr', e1, e2, hL3⟩
              go_wp2
              go_roundw
              case rel => exact ⟨pos + k, v, toks, at_ + 1, wd ++ [c], true, pl', fr', hL3, hP pl' fr' e1 e2, HM2⟩
              case measure => simp only [World.iterPos, hL3.iter, hit]; omega
            · rw [hlt] at cL
              clear hpt hlt
              go_wp2_with (first | (go_at_call 17; refine (cL _).mono ?_; rintro e w' ⟨rfl, rfl⟩) | (go_at_call 18; refine (cD _).mono ?_; rintro e w' ⟨rfl, rfl⟩))
              refine (grow_any pos _ (by omega) hL2).mono ?_
              rintro e w2 ⟨rfl, pl', fr', e1, e2, hL3⟩
              go_wp2
              go_roundw
              case rel => exact ⟨pos + k, v, toks, at_ + 1, wd ++ [c], true, pl', fr', hL3, hP pl' fr' e1 e2, HM2⟩
              case measure => simp only [World.iterPos, hL3.iter, hit]; omega
        · have hnx : ∀ ty, (Instr.next (.pointer (some ⟨w1.heap.size + 1, 0, none⟩)) true ty).run Tryd.prog wr = _ := fun ty => Lib.run_next_end_at wr (w1.heap.size + 1) s pos ty hL.iter hp
          have hpe : pos = s.size := by omega
          have cC := close_any pos wr hs16 hTB hS hL
          have HM1 := HM.out
          rw [drop_end s pos hp, chs_nil, lexM_end] at HM1
          rw [hpe] at cC
          clear HM hS
          by_cases hE : closeE wd = 0
          · rw [hE, if_neg (by simp)] at HM1
            rw [hE, if_pos rfl] at cC
            generalize closeT wd at_ toks = toksC at *
            have HG2 : Hid (ANS = (toksC, 0, 0)) := HM1.symm
            clear HM1
            go_wp2_with fail
            refine cC.mono ?_
            rintro e w2 ⟨rfl, v', hL3, _⟩
            have q0 := hL3.cell 0
            simp at q0
            go_wp2
            go_ret3
            rw [HG2.out]
            exact ⟨v', rfl, ownsRow_base hL3.owns (by omega), hL3.below⟩
          · rw [if_pos hE] at HM1
            rw [if_neg hE] at cC
            have hwne : wd ≠ [] := fun e => hE (by rw [e]; rfl)
            have HG2 : Hid (ANS = ([], closeE wd, at_ - wd.length)) := HM1.symm
            clear HM1
            generalize closeE wd = E at *
            have hEz : ¬ ((E : Int) = 0) := by omega
            go_wp2_with fail
            refine cC.mono ?_
            rintro e w2 ⟨rfl, v', hL3, hfr⟩
            have q4 := hL3.cell 4
            simp at q4
            go_wp2
            go_quiet (fail)
            go_wp2
            go_ret3
            exact left_nil E (at_ - wd.length) HG2.out (below_drewN hL3.below _)
end Go.Proofs.YtbpahdgkedfmdaaDoor
