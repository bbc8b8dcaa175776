/- The walk of (*line).closeWord: the open word becomes a token, or a fault. -/
import Derived.Test.YtbpahdgkedfmdaaDoorLexPart
import Derived.Deep.DeepCutAuto
namespace Go.Proofs.YtbpahdgkedfmdaaDoor
open Go.RowKit Go.Lib
attribute [local go_sem ↓] Go.wp_at_zero Go.wp_at_succ
variable {B N : Nat} {w0 : World} {s : ByteArray} {pos : Nat} {v : Value} {toks : List Tok} {at_ : Nat} {pl fr : Nat}

theorem clone_any (s : ByteArray) (w : World) (hlim : s.size ≤ 281474976710656) :
    Calls Tryd.prog 34 #[.string s] w fun e w' => e = .returned (.string s) ∧ Below w.heap.size w w' := by
  go_enter Tryd.func34, Tryd.ntmps34
  go_wp2_with (go_at_call 39; refine (Tryd.stringslite_Clone s _ hlim).mono ?_; rintro e w1 ⟨rfl, hb⟩)
  go_ret
  exact ⟨rfl, hb⟩

theorem close_shut (en : Nat) (w : World) (h : Line B N w0 s pos v toks at_ false pl fr w) :
    Calls Tryd.prog 20 #[.pointer (some ⟨N, 0, none⟩), .string s, .int .i64 en] w fun e w' => e = .returned (.int .i64 0) ∧ w = w' := by
  have c2 := h.cell 2
  simp at c2
  clear h
  go_enter Tryd.func20, Tryd.ntmps20
  go_wp2
  go_ret
  exact ⟨rfl, rfl⟩

theorem cell_later {W w1 : World} (hb : Below W.heap.size W w1) {a : Addr} {x : Value} (h : W.cell? a = some x) : w1.cell? a = some x := by
  rw [hb.cell (World.block_lt_of_cell? W a h), h]
theorem frozen_later {W w1 : World} (hb : Below W.heap.size W w1) {a : Addr} (hl : a.block < W.heap.size) (h : W.frozen? a = false) : w1.frozen? a = false := by
  rw [hb.frozen hl, h]

/-- A block of four cells, from a number L on. -/
structure Four (L : Nat) (w : World) (K : Nat) (a b c d : Value) (T : TypeId) : Prop where
  blk : w.heap[K]? = some (.cells #[a, b, c, d] T (0, 0))
  lo : L ≤ K
theorem Four.new {L : Nat} (w : World) (hL : L ≤ w.heap.size) (a b c d : Value) (T : TypeId) : Four L (w.alloc (.cells #[a, b, c, d] T)).drew w.heap.size a b c d T := ⟨heap_alloc_new w _, hL⟩
theorem Four.new' {L : Nat} (w : World) (hL : L ≤ w.heap.size) (a b c d : Value) (T : TypeId) : Four L (w.alloc (.cells #[a, b, c, d] T)) w.heap.size a b c d T := ⟨heap_alloc_new w _, hL⟩
theorem Four.later {L : Nat} {w w' : World} {K : Nat} {a b c d : Value} {T : TypeId} (h : Four L w K a b c d T) (hb : Below w.heap.size w w') : Four L w' K a b c d T := ⟨by rw [hb.block K (lt_of_block h.blk)]; exact h.blk, h.lo⟩
theorem Four.facts {L : Nat} {w : World} {K : Nat} {a b c d : Value} {T : TypeId} (h : Four L w K a b c d T) :
    w.cell? ⟨K, 0, none⟩ = some a ∧ w.cell? ⟨K, 1, none⟩ = some b ∧ w.cell? ⟨K, 2, none⟩ = some c ∧ w.cell? ⟨K, 3, none⟩ = some d ∧
    w.frozen? ⟨K, 0, none⟩ = false ∧ w.frozen? ⟨K, 1, none⟩ = false ∧ w.frozen? ⟨K, 2, none⟩ = false ∧ w.frozen? ⟨K, 3, none⟩ = false := by
  refine ⟨?_, ?_, ?_, ?_, frozen_of_row _ _ _ _ _ h.blk, frozen_of_row _ _ _ _ _ h.blk, frozen_of_row _ _ _ _ _ h.blk, frozen_of_row _ _ _ _ _ h.blk⟩ <;> (rw [cell_of_row _ _ _ _ _ _ h.blk]; rfl)
theorem below_drew0 (w : World) : Below w.heap.size w w.drew := (Below.refl _ _).drew
theorem cell_off4 {w : World} {N i : Nat} {x u0 u1 u2 u3 : Value} {K L : Nat} (lo : L ≤ K) (ha : N < L) (h : w.cell? ⟨N, i, none⟩ = some x) :
    ((((w.setCell ⟨K, 0, none⟩ u0).setCell ⟨K, 1, none⟩ u1).setCell ⟨K, 2, none⟩ u2).setCell ⟨K, 3, none⟩ u3).cell? ⟨N, i, none⟩ = some x := by
  have hne : ∀ (i : Nat), N ≠ (⟨K, i, none⟩ : Addr).block := fun i => by show N ≠ K; omega
  rw [← h]
  refine World.cell?_of_block ?_
  show _ = w.heap[N]?
  rw [heap_setCell_other _ _ _ _ (hne 3), heap_setCell_other _ _ _ _ (hne 2), heap_setCell_other _ _ _ _ (hne 1), heap_setCell_other _ _ _ _ (hne 0)]
theorem below_off4 {w a : World} {u0 u1 u2 u3 : Value} {K L : Nat} (lo : L ≤ K) (h : Below L a w) :
    Below L a ((((w.setCell ⟨K, 0, none⟩ u0).setCell ⟨K, 1, none⟩ u1).setCell ⟨K, 2, none⟩ u2).setCell ⟨K, 3, none⟩ u3) :=
  (((h.setCell lo _).setCell lo _).setCell lo _).setCell lo _

theorem Four.set4 {L : Nat} {w : World} {K : Nat} {a b c d : Value} {T : TypeId} (h : Four L w K a b c d T) (u0 u1 u2 u3 : Value) :
    Four L ((((w.setCell ⟨K, 0, none⟩ u0).setCell ⟨K, 1, none⟩ u1).setCell ⟨K, 2, none⟩ u2).setCell ⟨K, 3, none⟩ u3) K u0 u1 u2 u3 T := by
  have e0 := heap_setCell_same w K 0 _ _ u0 h.blk
  have e1 := heap_setCell_same _ K 1 _ _ u1 e0
  have e2 := heap_setCell_same _ K 2 _ _ u2 e1
  have e3 := heap_setCell_same _ K 3 _ _ u3 e2
  exact ⟨e3, h.lo⟩
theorem wordV_form (wd : List Ch) (fr : Nat) : ∃ (k : Int) (tt : ByteArray) (wo a : Int), wordV wd fr = .agg #[.int .i64 k, .string tt, .int .u64 wo, .int .i64 a] ∧
    (wordE wd = 0 → tokCells (wordT wd fr) = [.int .i64 k, .string tt, .int .u64 wo, .int .i64 a]) := by
  by_cases hE : wordE wd ≠ 0
  · exact ⟨0, ⟨#[]⟩, 0, 0, by unfold wordV; rw [if_pos hE]; rfl, fun h => absurd h hE⟩
  · exact ⟨_, _, _, _, by unfold wordV; rw [if_neg hE]; rfl, fun _ => rfl⟩
def closeToks (wd : List Ch) (fr : Nat) (toks : List Tok) : List Tok := if wordE wd = 0 then toks ++ [wordT wd fr] else toks

set_option maxRecDepth 100000 in
set_option maxHeartbeats 8000000 in
theorem close_open (en : Nat) (w : World) (hpl : pl < en) (hen : en ≤ s.size) (hs : s.size ≤ 16384) (hn : toks.length < 1000000) (tx : ByteArray) (htx : s.extract pl en = tx) (hv : validD tx.data.toList = true) (hT : ∀ w', Below B w0 w' → Tabs w')
    (h : Line B N w0 s pos v toks at_ true pl fr w) :
    Calls Tryd.prog 20 #[.pointer (some ⟨N, 0, none⟩), .string s, .int .i64 en] w fun e w' => e = .returned (.int .i64 (wordE (chs tx.data.toList))) ∧ ∃ v', Line B N w0 s pos v' (closeToks (chs tx.data.toList) fr toks) at_ false pl fr w' := by
  have hsz : tx.size = en - pl := by rw [← htx, ByteArray.size_extract]; omega
  have c2 := h.cell 2
  have f2 := h.frozen 2
  have h2 := h.set2 false
  have c3 := h2.cell 3
  have c4 := h2.cell 4
  simp only [List.getElem?_toArray, List.getElem?_cons_succ, List.getElem?_cons_zero] at c2 c3 c4
  have cC := fun w1 => clone_any tx w1 (by omega)
  have cW := fun w1 (hb : Tabs w1) => wordToken_any tx fr w1 (by omega) (by omega) hv hb
  have hT2 : Tabs (w.setCell ⟨N, 2, none⟩ (.bool false)) := hT _ h2.below
  obtain ⟨k, tt, wo, a, eV, eK⟩ := wordV_form (chs tx.data.toList) fr
  rw [eV] at cW
  have EK : Hid (wordE (chs tx.data.toList) = 0 → tokCells (wordT (chs tx.data.toList) fr) = [.int .i64 k, .string tt, .int .u64 wo, .int .i64 a]) := eK
  have EC : Hid (closeToks (chs tx.data.toList) fr toks = if wordE (chs tx.data.toList) = 0 then toks ++ [wordT (chs tx.data.toList) fr] else toks) := rfl
  clear eK eV
  generalize closeToks (chs tx.data.toList) fr toks = toks' at *
  generalize wordT (chs tx.data.toList) fr = T at *
  generalize wordE (chs tx.data.toList) = E at *
  have b1 : (0 : Int) ≤ (pl : Int) := by omega
  have b2 : (pl : Int) ≤ (en : Int) := by omega
  have b3 : (en : Int) ≤ (s.size : Int) := by omega
  have hNlt : N < (w.setCell ⟨N, 2, none⟩ (.bool false)).heap.size := by have := h2.lt; omega
  have H : Hid (Line B N w0 s pos v toks at_ false pl fr (w.setCell ⟨N, 2, none⟩ (.bool false))) := h2
  have HT : Hid (Tabs (w.setCell ⟨N, 2, none⟩ (.bool false))) := hT2
  clear h h2 hT2 hT hv
  obtain ⟨i0, hi0, hz0, hz1, hz2⟩ := info_parts info_tok
  have hbig : toks.length + 1 ≤ maxLen := by unfold maxLen; omega
  go_enter Tryd.func20, Tryd.ntmps20
  go_upto_region 4 with fail
  generalize w.setCell ⟨N, 2, none⟩ (.bool false) = wA at *
  go_cut [7, 8] (fun t e wc => ∃ K, t = .pointer (some ⟨K, 0, none⟩) ∧ e = .int .i64 E ∧ Below wA.heap.size wA wc ∧ Four wA.heap.size wc K (.int .i64 k) (.string tt) (.int .u64 wo) (.int .i64 a) 32)
  case first =>
    go_region_held3 (fun w' => w'.cell? ⟨N, 3, none⟩ = some (.int .i64 pl) ∧ w'.cell? ⟨N, 4, none⟩ = some (.int .i64 fr) ∧ Below wA.heap.size wA w')
      ((go_split_ands; refine ⟨?_, ?_, ?_⟩ <;> first | (with_reducible assumption) | (with_reducible exact cell_later hbm (by assumption)) | (with_reducible exact below_tr (by assumption) hbm) | (with_reducible exact cell_past (by assumption) _) | (with_reducible exact Below.alloc (by assumption) (Below.size (by assumption)) _) | (with_reducible exact Below.alloc hS3 hS3.size _) | (with_reducible exact cell_past hq3 _) | (with_reducible exact cell_past hq4 _) | (with_reducible exact cell_off4 hF.lo hNlt (by assumption)) | (with_reducible exact below_off4 hF.lo (by assumption)) | exact c3 | exact c4 | exact cell_past c3 _ | exact cell_past c4 _ | exact (Below.alloc (Below.refl _ wA) (Nat.le_refl _) _).drew | exact below_drew0 _ | exact Below.drew (by with_reducible assumption)))
      (first
        | (go_at_call 34; refine (cC _).mono ?_; rintro e w' ⟨rfl, hbm⟩; have hSz : wA.heap.size ≤ w'.heap.size := Nat.le_trans (by simp) hbm.size; (try (with_reducible have hF := (Four.new wA (Nat.le_refl _) _ _ _ _ _).later hbm; obtain ⟨g1, g2, g3, g4, g5, g6, g7, g8⟩ := hF.facts)))
        | (go_at_call 33; refine (cW _ ?_).mono ?_; (refine Tabs.below HT.out ?_; go_split_ands; first | assumption | exact Below.alloc (by assumption) (Below.size (by assumption)) _ | exact (Below.alloc (by assumption) (Below.size (by assumption)) _).drew); rintro e w' ⟨rfl, hbm⟩; have hS3 : Below wA.heap.size wA w' := below_tr (by go_split_ands; first | (with_reducible assumption) | assumption) hbm; have hq3 : w'.cell? ⟨N, 3, none⟩ = some (.int .i64 pl) := cell_later hbm (by go_split_ands; first | (with_reducible assumption) | assumption); have hq4 : w'.cell? ⟨N, 4, none⟩ = some (.int .i64 fr) := cell_later hbm (by go_split_ands; first | (with_reducible assumption) | assumption); (first | (with_reducible have hF := (Four.new' _ hSz _ _ _ _ _).later hbm; obtain ⟨g1, g2, g3, g4, g5, g6, g7, g8⟩ := hF.facts) | (with_reducible have hF := Four.later (by assumption) hbm; obtain ⟨g1, g2, g3, g4, g5, g6, g7, g8⟩ := hF.facts) | skip)))
    all_goals
      go_wp2
      go_meet
      first
        | exact ⟨_, rfl, rfl, below_off4 hF.lo hS3, hF.set4 _ _ _ _⟩
        | exact ⟨_, rfl, rfl, hS3.alloc hS3.size _, Four.new' _ hS3.size _ _ _ _ _⟩
  case rest =>
    obtain ⟨K, rfl, rfl, hB, hF⟩ := hcut
    have hL : Line B N w0 s pos v toks at_ false pl fr wc := H.out.later hB
    clear hB H HT cC cW c3 c4 hNlt
    by_cases hE : E = 0
    · subst hE
      have c0 := hL.cell 0
      have f0 := hL.frozen 0
      simp at c0
      have c0a := fun o => cell_past c0 o
      have hlt := hL.lt
      have ag : v.ownBlock ≠ some N := fun e => by have := (hL.owns.lt N e).1; omega
      have hown := hL.owns
      obtain ⟨g1, g2, g3, g4, g5, g6, g7, g8⟩ := hF.facts
      have H2 : Hid (Line B N w0 s pos v toks at_ false pl fr wc) := hL
      clear hL hF c2 f2 g5 g6 g7 g8
      go_wp2
      go_region_law
        ((refine step_append_lies _ (by rfl) _ _ _ (by rfl) (N + 2) 32 i0 _ 4 40 Tryd.underlying23 hi0 hz0 hz1 hz2 rfl (by omega) v toks.length (toksCells toks) (by rfl) ((hown.alloc _).drew)
            ⟨wc.heap.size, 0, none⟩ 1 1 [.int .i64 k, .string tt, .int .u64 wo, .int .i64 a] (by rfl) (by rfl) (World.news_of_block (cs := #[.int .i64 k, .string tt, .int .u64 wo, .int .i64 a]) (t := 32) (fr := (0, 0)) (heap_alloc_new wc _)) (by simp [Value.oneCell'])
            (by omega) hbig (by omega) (by simp; omega) (wc.heap.size + 1) (by simp) ?_; intro g cap w1 hown1 hgrow hat' hlt'; have k0 := far_cell hgrow (a := ⟨N, 0, none⟩) (by show N < _; omega) ag c0; have j0 := far_frozen hgrow (a := ⟨N, 0, none⟩) (by show N < _; omega) ag f0))
      all_goals
        go_wp2
        go_ret
        refine ⟨rfl, .slice (some ⟨g, 0, none⟩) (toks.length + 1) cap, ?_⟩
        rw [EC.out, if_pos (by trivial)]
        refine Line.push (H2.out.later ((Below.refl _ wc).alloc (Nat.le_refl _) (.cells #[.int .i64 k, .string tt, .int .u64 wo, .int .i64 a] 32)).drew) hgrow ?_
        rw [EK.out (by trivial)]
        exact hown1
    · have hEz : ¬ ((E : Int) = 0) := by omega
      go_wp2
      go_ret
      refine ⟨rfl, v, ?_⟩
      rw [EC.out, if_neg hE]
      exact hL
end Go.Proofs.YtbpahdgkedfmdaaDoor
