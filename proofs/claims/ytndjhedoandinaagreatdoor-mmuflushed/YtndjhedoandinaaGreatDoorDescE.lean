/- The walks of package desc, fifth part: Encode. -/
import Derived.Test.YtndjhedoandinaaGreatDoorDescD
namespace Go.Proofs.YtndjhedoandinaaGreatDoor
open Go.RowKit

/-- The word of a right descriptor. -/
def encN (k : Int) (o : Nat) (u r x s : Bool) (a : Int) : Nat :=
  if k = 1 then o ||| 1 ||| 2 else if k = 2 then leafN o u r x s a.toNat ||| 1 else if k = 3 then leafN o u r x s a.toNat ||| 1 ||| 2 else 0
def encE (l k : Int) (o : Nat) (u r x s : Bool) (a : Int) : Int := if isLv l = false then 12 else if rightP l k o u r x s a = false then 10 else 0
def encW (l k : Int) (o : Nat) (u r x s : Bool) (a : Int) : Nat := if rightP l k o u r x s a = false then 0 else encN k o u r x s a

theorem leafN_lt {o : Nat} (u r x s : Bool) {a : Nat} (ho : o < 18446744073709551616) (ha : a ≤ 7) : leafN o u r x s a < 18446744073709551616 :=
  orN_lt _ (orN_lt _ (orN_lt _ (orN_lt _ (leafP_lt ho ha) (by omega)) (by omega)) (by omega)) (by omega)
theorem rightP_lv {l k : Int} {o : Nat} {u r x s : Bool} {a : Int} (h : rightP l k o u r x s a = true) : isLv l = true := by
  unfold rightP at h
  cases hl : isLv l
  · rw [if_pos hl] at h; cases h
  · rfl
theorem rightP_leaf {l : Int} {o : Nat} {u r x s : Bool} {a : Int} {k : Int} (hk : k = 2 ∨ k = 3) (h : rightP l k o u r x s a = true) : 0 ≤ a ∧ a ≤ 7 := by
  have hl : ¬ isLv l = false := by rw [rightP_lv h]; decide
  unfold rightP at h
  rw [if_neg hl] at h
  have hb : leafB l o a = true := by
    rcases hk with rfl | rfl
    · rw [if_neg (by decide), if_neg (by decide), if_pos rfl, Bool.and_eq_true] at h; exact h.2
    · rw [if_neg (by decide), if_neg (by decide), if_neg (by decide), if_pos rfl, Bool.and_eq_true] at h; exact h.2
  unfold leafB at hb
  rw [Bool.and_eq_true] at hb
  exact of_decide_eq_true hb.2
theorem rightP_kind {l k : Int} {o : Nat} {u r x s : Bool} {a : Int} (h : rightP l k o u r x s a = true) : k = 0 ∨ k = 1 ∨ k = 2 ∨ k = 3 := by
  have hl : ¬ isLv l = false := by rw [rightP_lv h]; decide
  unfold rightP at h
  rw [if_neg hl] at h
  by_cases h0 : k = 0
  · exact Or.inl h0
  by_cases h1 : k = 1
  · exact Or.inr (Or.inl h1)
  by_cases h2 : k = 2
  · exact Or.inr (Or.inr (Or.inl h2))
  by_cases h3 : k = 3
  · exact Or.inr (Or.inr (Or.inr h3))
  rw [if_neg h0, if_neg h1, if_neg h2, if_neg h3] at h; cases h

set_option maxHeartbeats 2000000 in
theorem encode_any (l k : Int) (o : Nat) (u r x s : Bool) (a : Int) (ho : o < 18446744073709551616) (w : World) (hF : Flds w) :
    Calls Tryz.prog 127 #[.int .i64 l, .agg #[.int .i64 k, .int .u64 o, .bool u, .bool r, .bool x, .bool s, .int .i64 a]] w fun e w' => e = .returned (.tuple #[.int .u64 ((encW l k o u r x s a : Nat) : Int), .int .i64 (encE l k o u r x s a)]) ∧ Below w.heap.size w w' := by
  cases hl : isLv l
  · have HE : Hid (encE l k o u r x s a = 12 ∧ encW l k o u r x s a = 0) := by
      have hr : rightP l k o u r x s a = false := by unfold rightP; rw [if_pos hl]
      exact ⟨by unfold encE; rw [if_pos hl], by unfold encW; rw [if_pos hr]⟩
    go_enter Tryz.func127, Tryz.ntmps127
    go_wp2_with (go_at_call 125; refine (isLevel_any _ _).mono ?_; rintro e w' ⟨rfl, rfl⟩; rw [hl])
    go_ret2
    exact ⟨by rw [HE.out.1, HE.out.2]; rfl, below_new _ _⟩
  have hlf : ¬ isLv l = false := by rw [hl]; decide
  have hR := fun w1 (h : Flds w1) => right_d l k o u r x s a ho w1 h
  have hF1 := hF.alloc (.cells #[.int .i64 k, .int .u64 o, .bool u, .bool r, .bool x, .bool s, .int .i64 a] 60)
  cases hr : rightP l k o u r x s a
  · have HE : Hid (encE l k o u r x s a = 10 ∧ encW l k o u r x s a = 0) :=
      ⟨by unfold encE; rw [if_neg hlf, if_pos hr], by unfold encW; rw [if_pos hr]⟩
    rw [hr] at hR
    clear hlf hr
    go_enter Tryz.func127, Tryz.ntmps127
    go_wp2_with (first
      | (go_at_call 125; refine (isLevel_any _ _).mono ?_; rintro e w' ⟨rfl, rfl⟩; rw [hl])
      | (go_at_call 146; refine (hR _ hF1).mono ?_; rintro e w' ⟨rfl, hbm⟩))
    go_ret2
    exact ⟨by rw [HE.out.1, HE.out.2]; rfl, below_tr (below_new _ _) hbm⟩
  have hrf : ¬ rightP l k o u r x s a = false := by rw [hr]; decide
  have hE0 : encE l k o u r x s a = 0 := by unfold encE; rw [if_neg hlf, if_neg hrf]
  have hW0 : encW l k o u r x s a = encN k o u r x s a := by unfold encW; rw [if_neg hrf]
  rw [hr] at hR
  rw [hE0, hW0]
  rcases rightP_kind hr with rfl | rfl | rfl | rfl
  · have HE : Hid (encN 0 o u r x s a = 0) := rfl
    clear hE0 hW0 hlf hrf hr
    go_enter Tryz.func127, Tryz.ntmps127
    go_wp2_with (first
      | (go_at_call 125; refine (isLevel_any _ _).mono ?_; rintro e w' ⟨rfl, rfl⟩; rw [hl])
      | (go_at_call 146; refine (hR _ hF1).mono ?_; rintro e w' ⟨rfl, hbm⟩; have d0 : w'.cell? ⟨w.heap.size, 0, none⟩ = some (.int .i64 0) := cell_later hbm (by simp)))
    go_ret2
    exact ⟨by rw [HE.out]; rfl, below_tr (below_new _ _) hbm⟩
  · have hl1 := or_lt o 1 ho (by omega)
    have HE : Hid (((encN 1 o u r x s a : Nat) : Int) = bits BinOp.or IntKind.u64 (bits BinOp.or IntKind.u64 (o : Int) 1) 2) := by
      show ((encN 1 o u r x s a : Nat) : Int) = _
      have e1 : bits BinOp.or IntKind.u64 (o : Int) 1 = ((o ||| 1 : Nat) : Int) := or_cast (k := 1) ho (by omega)
      have e2 : bits BinOp.or IntKind.u64 ((o ||| 1 : Nat) : Int) 2 = ((o ||| 1 ||| 2 : Nat) : Int) := or_cast (k := 2) hl1 (by omega)
      rw [e1, e2]; rfl
    clear hE0 hW0 hlf hrf hr hl1
    go_enter Tryz.func127, Tryz.ntmps127
    go_wp2_with (first
      | (go_at_call 125; refine (isLevel_any _ _).mono ?_; rintro e w' ⟨rfl, rfl⟩; rw [hl])
      | (go_at_call 146; refine (hR _ hF1).mono ?_; rintro e w' ⟨rfl, hbm⟩; have d0 : w'.cell? ⟨w.heap.size, 0, none⟩ = some (.int .i64 1) := cell_later hbm (by simp); have d1 : w'.cell? ⟨w.heap.size, 1, none⟩ = some (.int .u64 o) := cell_later hbm (by simp)))
    go_ret2
    exact ⟨by rw [HE.out]; rfl, below_tr (below_new _ _) hbm⟩
  all_goals
    obtain ⟨ha1, ha2⟩ := rightP_leaf (by first | exact Or.inl rfl | exact Or.inr rfl) hr
    obtain ⟨n, rfl⟩ := Int.eq_ofNat_of_zero_le ha1
    have hn : n ≤ 7 := by omega
    have hll := leafN_lt u r x s ho hn
    have hl1 := or_lt _ 1 hll (by omega)
  · have HE : Hid (((encN 2 o u r x s (n : Int) : Nat) : Int) = bits BinOp.or IntKind.u64 ((leafN o u r x s n : Nat) : Int) 1) := by
      show ((encN 2 o u r x s (n : Int) : Nat) : Int) = _
      have e1 : bits BinOp.or IntKind.u64 ((leafN o u r x s n : Nat) : Int) 1 = ((leafN o u r x s n ||| 1 : Nat) : Int) := or_cast (k := 1) hll (by omega)
      rw [e1]; rfl
    have hC := fun w1 h => leafWord_any 2 o u r x s n ho hn w1 h
    generalize leafN o u r x s n = N at *
    clear hE0 hW0 hlf hrf hr hl1 ha1 ha2
    go_enter Tryz.func127, Tryz.ntmps127
    go_wp2_with (first
      | (go_at_call 125; refine (isLevel_any _ _).mono ?_; rintro e w' ⟨rfl, rfl⟩; rw [hl])
      | (go_at_call 146; refine (hR _ hF1).mono ?_; rintro e w' ⟨rfl, hbm⟩
         have dF := hF1.later hbm
         have hB : Below w.heap.size w w' := below_tr (below_new _ _) hbm
         have d0 : w'.cell? ⟨w.heap.size, 0, none⟩ = some (.int .i64 2) := cell_later hbm (by simp)
         have d1 : w'.cell? ⟨w.heap.size, 1, none⟩ = some (.int .u64 o) := cell_later hbm (by simp)
         have d2 : w'.cell? ⟨w.heap.size, 2, none⟩ = some (.bool u) := cell_later hbm (by simp)
         have d3 : w'.cell? ⟨w.heap.size, 3, none⟩ = some (.bool r) := cell_later hbm (by simp)
         have d4 : w'.cell? ⟨w.heap.size, 4, none⟩ = some (.bool x) := cell_later hbm (by simp)
         have d5 : w'.cell? ⟨w.heap.size, 5, none⟩ = some (.bool s) := cell_later hbm (by simp)
         have d6 : w'.cell? ⟨w.heap.size, 6, none⟩ = some (.int .i64 (n : Int)) := cell_later hbm (by simp)
         clear hbm)
      | (go_at_call 147; refine (hC _ dF).mono ?_; rintro e w2 ⟨rfl, hb2⟩))
    go_ret2
    exact ⟨by rw [HE.out]; rfl, below_tr hB hb2⟩
  · have HE : Hid (((encN 3 o u r x s (n : Int) : Nat) : Int) = bits BinOp.or IntKind.u64 (bits BinOp.or IntKind.u64 ((leafN o u r x s n : Nat) : Int) 1) 2) := by
      show ((encN 3 o u r x s (n : Int) : Nat) : Int) = _
      have e1 : bits BinOp.or IntKind.u64 ((leafN o u r x s n : Nat) : Int) 1 = ((leafN o u r x s n ||| 1 : Nat) : Int) := or_cast (k := 1) hll (by omega)
      have e2 : bits BinOp.or IntKind.u64 ((leafN o u r x s n ||| 1 : Nat) : Int) 2 = ((leafN o u r x s n ||| 1 ||| 2 : Nat) : Int) := or_cast (k := 2) hl1 (by omega)
      rw [e1, e2]; rfl
    have hC := fun w1 h => leafWord_any 3 o u r x s n ho hn w1 h
    generalize leafN o u r x s n = N at *
    clear hE0 hW0 hlf hrf hr hl1 ha1 ha2
    go_enter Tryz.func127, Tryz.ntmps127
    go_wp2_with (first
      | (go_at_call 125; refine (isLevel_any _ _).mono ?_; rintro e w' ⟨rfl, rfl⟩; rw [hl])
      | (go_at_call 146; refine (hR _ hF1).mono ?_; rintro e w' ⟨rfl, hbm⟩
         have dF := hF1.later hbm
         have hB : Below w.heap.size w w' := below_tr (below_new _ _) hbm
         have d0 : w'.cell? ⟨w.heap.size, 0, none⟩ = some (.int .i64 3) := cell_later hbm (by simp)
         have d1 : w'.cell? ⟨w.heap.size, 1, none⟩ = some (.int .u64 o) := cell_later hbm (by simp)
         have d2 : w'.cell? ⟨w.heap.size, 2, none⟩ = some (.bool u) := cell_later hbm (by simp)
         have d3 : w'.cell? ⟨w.heap.size, 3, none⟩ = some (.bool r) := cell_later hbm (by simp)
         have d4 : w'.cell? ⟨w.heap.size, 4, none⟩ = some (.bool x) := cell_later hbm (by simp)
         have d5 : w'.cell? ⟨w.heap.size, 5, none⟩ = some (.bool s) := cell_later hbm (by simp)
         have d6 : w'.cell? ⟨w.heap.size, 6, none⟩ = some (.int .i64 (n : Int)) := cell_later hbm (by simp)
         clear hbm)
      | (go_at_call 147; refine (hC _ dF).mono ?_; rintro e w2 ⟨rfl, hb2⟩))
    go_ret2
    exact ⟨by rw [HE.out]; rfl, below_tr hB hb2⟩

end Go.Proofs.YtndjhedoandinaaGreatDoor
