/- What the two Decodes answer, the program's and the document's: the same. -/
import Derived.Test.YtdpcbdbdacjcbaaDoorDescEq
import Derived.Test.YtdpcbdbdacjcbaaDoorRefDescD
import Derived.Test.YtdpcbdbdacjcbaaDoorDescGood
namespace Go.Proofs.YtdpcbdbdacjcbaaDoor
open Go.RowKit

theorem rdec_good (l : Int) (x : Nat) (hl : isLv l = true) (hx : x < 18446744073709551616) (h : goodD l x = true) (w : World) :
    Calls Tryd.prog 43 #[.int .i64 l, .int .u64 x] w fun e w' => e = .returned (.tuple #[rdV l x, .bool true]) ∧ Below w.heap.size w w' := by
  cases h0 : x.testBit 0
  · rw [rdV_inv l x h0]
    exact rdec_inv l x hx h0 w
  · have hk : okD l x = true := by unfold goodD at h; rw [h0] at h; simpa using h
    cases h1 : x.testBit 1
    · have hi := (okD_block l x hl hx h0 h1).1 hk
      obtain ⟨e0, e1, e2, e3, e4, e5, e6⟩ := rd_leaf l x h0 (by rw [h1]; rfl)
      rw [h1, if_neg (by decide)] at e0
      refine rdec_leafB l x hx h0 h1 hl _ _ (Or.inl ⟨hi.1, hi.2, ?_, rfl⟩) w
      unfold rdV; rw [e0, e1, e2, e3, e4, e5, e6]
    · by_cases h3 : l < 3
      · have hi := (okD_table l x hl hx h0 h1 h3).1 hk
        obtain ⟨e0, e1, e2, e3, e4, e5, e6⟩ := rd_tab l x h0 h1 h3
        unfold rdV; rw [e0, e1, e2, e3, e4, e5, e6]
        exact rdec_tab l x hx h0 h1 h3 hi w
      · have e3 : l = 3 := by have := isLv_of hl; omega
        subst e3
        have hi := (okD_page x hx h0 h1).1 hk
        obtain ⟨e0, e1, e2, e3, e4, e5, e6⟩ := rd_leaf 3 x h0 (by rw [h1]; rfl)
        rw [h1, if_pos rfl] at e0
        refine rdec_leafP 3 x hx h0 h1 rfl _ _ (Or.inl ⟨hi.1, hi.2, ?_, rfl⟩) w
        unfold rdV; rw [e0, e1, e2, e3, e4, e5, e6]

theorem rdec_fail (l : Int) (x : Nat) (hl : isLv l = true) (hx : x < 18446744073709551616) (h : goodD l x = false) (w : World) :
    Calls Tryd.prog 43 #[.int .i64 l, .int .u64 x] w fun e w' => e = .returned (.tuple #[dv 0 0 false false false false 0, .bool false]) ∧ Below w.heap.size w w' := by
  cases h0 : x.testBit 0
  · unfold goodD at h; rw [h0] at h; cases h
  · have hk : ¬ okD l x = true := by unfold goodD at h; rw [h0] at h; simpa using h
    cases h1 : x.testBit 1
    · have hi := fun q => hk ((okD_block l x hl hx h0 h1).2 q)
      cases hh : (headOK x && decide (0 < l ∧ l < 3))
      · exact rdec_leafB l x hx h0 h1 hl _ _ (Or.inr (Or.inl ⟨hh, rfl, rfl⟩)) w
      · exact rdec_leafB l x hx h0 h1 hl _ _ (Or.inr (Or.inr ⟨hh, first_bad _ _ _ (fun q => hi ⟨hh, q⟩), rfl, rfl⟩)) w
    · by_cases h3 : l < 3
      · obtain ⟨i0, a, b, c, d⟩ := first_bad _ 2 64 (fun q => hk ((okD_table l x hl hx h0 h1 h3).2 q))
        exact rdec_tabBad l x hx h0 h1 h3 i0 a b c d w
      · have e3 : l = 3 := by have := isLv_of hl; omega
        subst e3
        have hi := fun q => hk ((okD_page x hx h0 h1).2 q)
        cases hh : headOK x
        · exact rdec_leafP 3 x hx h0 h1 rfl _ _ (Or.inr (Or.inl ⟨hh, rfl, rfl⟩)) w
        · exact rdec_leafP 3 x hx h0 h1 rfl _ _ (Or.inr (Or.inr ⟨hh, first_bad _ _ _ (fun q => hi ⟨hh, q⟩), rfl, rfl⟩)) w

/-- What a word that isn't reserved says is right, and has that word, but of Invalid. -/
theorem good_right (l : Int) (x : Nat) (hl : isLv l = true) (h : goodD l x = true) :
    rightP l (rdK l x) (rdO x) (rdU l x) (rdR l x) (rdX l x) (rdS l x) (rdA l x) = true ∧
    ((x.testBit 0 = false ∧ rdK l x = 0 ∧ encW l (rdK l x) (rdO x) (rdU l x) (rdR l x) (rdX l x) (rdS l x) (rdA l x) = 0) ∨
     (x.testBit 0 = true ∧ encW l (rdK l x) (rdO x) (rdU l x) (rdR l x) (rdX l x) (rdS l x) (rdA l x) = x)) := by
  have hlf : ¬ isLv l = false := by rw [hl]; decide
  cases h0 : x.testBit 0
  · obtain ⟨e0, e1, e2, e3, e4, e5, e6⟩ := rd_inv l x h0
    rw [e0, e1, e2, e3, e4, e5, e6]
    have hr : rightP l 0 0 false false false false 0 = true := by rw [rightP, if_neg hlf, if_pos rfl]; rfl
    refine ⟨hr, Or.inl ⟨rfl, rfl, ?_⟩⟩
    unfold encW; rw [if_neg (by rw [hr]; decide)]; rfl
  · have hk : okD l x = true := by unfold goodD at h; rw [h0] at h; simpa using h
    unfold okD at hk
    rw [Bool.and_eq_true, beq_iff_eq] at hk
    refine ⟨hk.1, Or.inr ⟨rfl, ?_⟩⟩
    unfold encW; rw [if_neg (by rw [hk.1]; decide)]; exact hk.2

end Go.Proofs.YtdpcbdbdacjcbaaDoor
