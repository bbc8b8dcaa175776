/- The walks of package lex, part two: told texts, their count, a word's token. -/
import Derived.Test.YtbpahdgkedfmdaaDoorLexValue
import Derived.Shelf.Unicode.ValidAny
namespace Go.Proofs.YtbpahdgkedfmdaaDoor
open Go.RowKit Go.Lib

/-- utf8's two tables lie as their initialisers lay them. -/
def Tabs (w : World) : Prop := Lib.Utf8Tabs (Tryd.lays196_ren.g 3) (Tryd.lays196_ren.g 4) w
theorem Tabs.below {w w' : World} (h : Tabs w) (hb : Below w.heap.size w w') : Tabs w' := Utf8Tabs_below h hb

theorem told_any (s : ByteArray) (w : World) (hs : s.size ≤ 9223372036854775807) (hT : Tabs w) :
    Calls Tryd.prog 12 #[.string s] w fun e w' => e = .returned (.bool (validD s.data.toList)) ∧ Below w.heap.size w w' := by
  have cV : Calls Tryd.prog 27 #[.string s] w _ := Any.utf8_ValidString Tryd.lays196 s w hs hT
  generalize Lib.validD s.data.toList = V at cV ⊢
  go_enter Tryd.func12, Tryd.ntmps12
  go_wp2_with (go_at_call 27; refine cV.mono ?_; rintro e w' ⟨rfl, hb⟩)
  go_ret
  exact ⟨rfl, hb⟩

/-- What Count says. -/
def countS (l : List UInt8) : Nat := if validD l = true then (chs l).length else 0
theorem count_any (s : ByteArray) (w : World) (hs : s.size < 9223372036854775807) (hT : Tabs w) :
    Calls Tryd.prog 10 #[.string s] w fun e w' => e = .returned (.int .i64 (countS s.data.toList)) ∧ Below w.heap.size w w' := by
  have cV := told_any s w (by omega) hT
  cases hv : validD s.data.toList
  · rw [hv] at cV
    have e0 : countS s.data.toList = 0 := by unfold countS; rw [hv]; rfl
    rw [e0]
    clear e0 hv
    go_enter Tryd.func10, Tryd.ntmps10
    go_wp2_with (go_at_call 12; refine cV.mono ?_; rintro e w' ⟨rfl, hb⟩)
    go_ret
    exact ⟨rfl, hb⟩
  · rw [hv] at cV
    have e0 : countS s.data.toList = (chs s.data.toList).length := by unfold countS; rw [hv, if_pos rfl]
    rw [e0, ← runeCount_chs]
    clear e0 hv
    go_enter Tryd.func10, Tryd.ntmps10
    go_wp2_with (go_at_call 12; refine cV.mono ?_; rintro e w1 ⟨rfl, hb⟩)
    refine (Tryd.utf8_RuneCountInString s _ hs).mono ?_
    rintro e w2 ⟨rfl, pos, rfl⟩
    go_wp2
    go_ret
    exact ⟨rfl, hb.alloc hb.size _⟩

/-- A token as a struct. -/
def tokAgg (t : Tok) : Value := .agg #[.int .i64 t.kind, .string ⟨t.text.toArray⟩, .int .u64 t.word, .int .i64 t.at_]
def tok0 : Value := .agg #[.int .i64 0, .string ⟨#[]⟩, .int .u64 0, .int .i64 0]
def wordV (wd : List Ch) (at_ : Nat) : Value := if wordE wd ≠ 0 then tok0 else tokAgg (wordT wd at_)

theorem head_dig (l : List UInt8) (hne : l ≠ []) : isDig ((chs l).headD (0, [])).1 = isDig (l.getD 0 0).toNat := by
  rw [chs_step l hne]
  show isDig (decodeL l).1 = _
  unfold isDig
  rw [decide_eq_decide]
  constructor
  · intro h
    have := (low48 l hne (decodeL l).1 (by omega)).1 rfl
    omega
  · intro h
    have := (low48 l hne (l.getD 0 0).toNat (by omega)).2 rfl
    omega

set_option maxHeartbeats 2000000 in
theorem wordToken_any (s : ByteArray) (at_ : Nat) (w : World) (h0 : 0 < s.size) (hs : s.size ≤ 16384) (hv : validD s.data.toList = true) (hT : Tabs w) :
    Calls Tryd.prog 33 #[.string s, .int .i64 at_] w fun e w' => e = .returned (.tuple #[wordV (chs s.data.toList) at_, .int .i64 (wordE (chs s.data.toList))]) ∧ Below w.heap.size w w' := by
  have hne : s.data.toList ≠ [] := fun e => by have := size_eq s; rw [e] at this; exact absurd this (by show s.size ≠ 0; omega)
  have hh := head_dig s.data.toList hne
  have hby : (⟨(bytesOf (chs s.data.toList)).toArray⟩ : ByteArray) = s := by unfold bytesOf; rw [chs_bytes]
  have hget : (s.data.toList.getD 0 0).toNat = (s[0]'h0).toNat := by
    rw [getD_get!', Utf8W.get!_of_lt s 0 h0]
  rw [hget] at hh
  clear hget
  have cD := isDigit_any (s[0]'h0).toNat
  have h0z : (0 : Int) < (s.size : Int) := by omega
  have hb0 : (s[0]'h0).toNat < 256 := UInt8.toNat_lt _
  have hw32 : wrap32 ((s[0]'h0).toNat : Int) = ((s[0]'h0).toNat : Int) := by unfold wrap32; omega
  cases hd : isDig (s[0]'h0).toNat
  · rw [hd] at hh cD
    have eE : wordE (chs s.data.toList) = if 40 < (chs s.data.toList).length then 11 else 0 := by unfold wordE; rw [hh, if_neg (by simp)]
    have eT : wordT (chs s.data.toList) at_ = ⟨1, bytesOf (chs s.data.toList), 0, at_⟩ := by unfold wordT; rw [hh, if_neg (by simp)]
    have cC := fun w1 (h : Tabs w1) => count_any s w1 (by omega) h
    have eC : countS s.data.toList = (chs s.data.toList).length := by unfold countS; rw [hv, if_pos rfl]
    rw [eC] at cC
    clear hd hh hne eC
    have hl := chs_len_le s.data.toList
    rw [← size_eq] at hl
    by_cases h40 : 40 < (chs s.data.toList).length
    · rw [if_pos h40] at eE
      have eV : wordV (chs s.data.toList) at_ = tok0 := by unfold wordV; rw [eE]; rfl
      rw [eE, eV]
      clear eE eV eT hby hv
      generalize (chs s.data.toList).length = n at *
      go_enter Tryd.func33, Tryd.ntmps33
      go_wp2_with (first
        | (go_at_call 18; refine (cD _).mono ?_; rintro e w' ⟨rfl, rfl⟩)
        | (go_at_call 10; refine (cC _ (hT.below ((Below.refl _ _).alloc (Nat.le_refl _) _))).mono ?_; rintro e w1 ⟨rfl, hb⟩; obtain ⟨hc, hf⟩ := bcell hb; have hB := below_tr ((Below.refl _ _).alloc (Nat.le_refl _) _) hb; have hz : w.heap.size < w1.heap.size := by have := hb.size; simp at this; omega))
      refine bodyPost_ret (v := .tuple #[tok0, .int .i64 11]) (by simp [results, Tryd.results33, go_sem, hc, tok0]) rfl ⟨rfl, ?_⟩
      exact (((hB.setCell (by simp) _).setCell (by simp) _).setCell (by simp) _).setCell (by simp) _
    · rw [if_neg h40] at eE
      have eV : wordV (chs s.data.toList) at_ = .agg #[.int .i64 1, .string s, .int .u64 0, .int .i64 at_] := by unfold wordV tokAgg; rw [eE, eT, hby]; rfl
      rw [eE, eV]
      clear eE eV eT hby hv
      generalize (chs s.data.toList).length = n at *
      go_enter Tryd.func33, Tryd.ntmps33
      go_wp2_with (first
        | (go_at_call 18; refine (cD _).mono ?_; rintro e w' ⟨rfl, rfl⟩)
        | (go_at_call 10; refine (cC _ (hT.below ((Below.refl _ _).alloc (Nat.le_refl _) _))).mono ?_; rintro e w1 ⟨rfl, hb⟩; obtain ⟨hc, hf⟩ := bcell hb; have hB := below_tr ((Below.refl _ _).alloc (Nat.le_refl _) _) hb; have hz : w.heap.size < w1.heap.size := by have := hb.size; simp at this; omega))
      refine bodyPost_ret (v := .tuple #[.agg #[.int .i64 1, .string s, .int .u64 0, .int .i64 at_], .int .i64 0]) (by simp [results, Tryd.results33, go_sem, hc]) rfl ⟨rfl, ?_⟩
      exact (((hB.setCell (by simp) _).setCell (by simp) _).setCell (by simp) _).setCell (by simp) _
  · rw [hd] at hh cD
    have eE : wordE (chs s.data.toList) = valE ((chs s.data.toList).map (·.1)) := by unfold wordE; rw [hh, if_pos rfl]
    have eT : wordT (chs s.data.toList) at_ = ⟨2, bytesOf (chs s.data.toList), valW ((chs s.data.toList).map (·.1)), at_⟩ := by unfold wordT; rw [hh, if_pos rfl]
    have cU := value_any s
    have eV : wordV (chs s.data.toList) at_ = if valE ((chs s.data.toList).map (·.1)) ≠ 0 then tok0 else .agg #[.int .i64 2, .string s, .int .u64 (valW ((chs s.data.toList).map (·.1))), .int .i64 at_] := by
      unfold wordV tokAgg; rw [eE, eT, hby]; rfl
    rw [eE, eV]
    clear eE eT eV hby hd hh hne hv
    have hE := valE_cases ((chs s.data.toList).map (·.1))
    generalize valE ((chs s.data.toList).map (·.1)) = E at *
    generalize valW ((chs s.data.toList).map (·.1)) = V at *
    by_cases hE0 : E = 0
    · subst hE0
      rw [if_neg (by simp)]
      clear hE
      go_enter Tryd.func33, Tryd.ntmps33
      go_wp2_with (first
        | (go_at_call 18; refine (cD _).mono ?_; rintro e w' ⟨rfl, rfl⟩)
        | (go_at_call 13; refine (cU _).mono ?_; rintro e w1 ⟨rfl, hb⟩; obtain ⟨hc, hf⟩ := bcell hb; have hB := below_tr ((Below.refl _ _).alloc (Nat.le_refl _) _) hb; have hz : w.heap.size < w1.heap.size := by have := hb.size; simp at this; omega))
      refine bodyPost_ret (v := .tuple #[.agg #[.int .i64 2, .string s, .int .u64 V, .int .i64 at_], .int .i64 0]) (by simp [results, Tryd.results33, go_sem, hc]) rfl ⟨rfl, ?_⟩
      exact (((hB.setCell (by simp) _).setCell (by simp) _).setCell (by simp) _).setCell (by simp) _
    · rw [if_pos hE0]
      have hEz : ¬ ((E : Int) = 0) := by omega
      go_enter Tryd.func33, Tryd.ntmps33
      go_wp2_with (first
        | (go_at_call 18; refine (cD _).mono ?_; rintro e w' ⟨rfl, rfl⟩)
        | (go_at_call 13; refine (cU _).mono ?_; rintro e w1 ⟨rfl, hb⟩; obtain ⟨hc, hf⟩ := bcell hb; have hB := below_tr ((Below.refl _ _).alloc (Nat.le_refl _) _) hb; have hz : w.heap.size < w1.heap.size := by have := hb.size; simp at this; omega))
      refine bodyPost_ret (v := .tuple #[tok0, .int .i64 E]) (by simp [results, Tryd.results33, go_sem, hc, tok0]) rfl ⟨rfl, ?_⟩
      exact (((hB.setCell (by simp) _).setCell (by simp) _).setCell (by simp) _).setCell (by simp) _
end Go.Proofs.YtbpahdgkedfmdaaDoor
