/- P29 -/
import Derived.Test.YtfdbdeckohaneaaGreatDoorP27
import Derived.Test.YtfdbdeckohaneaaGreatDoorP28
import Derived.Test.YtfdbdeckohaneaaGreatDoorP17
import Derived.Test.YtfdbdeckohaneaaGreatDoorP20
import Derived.Test.YtfdbdeckohaneaaGreatDoorP21
import Derived.Test.YtfdbdeckohaneaaGreatDoorP22
set_option maxHeartbeats 16000000
set_option maxRecDepth 100000
namespace Go.Proofs.YtfdbdeckohaneaaGreatDoor
theorem wk_level {S : Nat} {f : Nat → Nat} {va : Nat} {l : Int} {x : Nat} : ∀ {k tb : Nat}, k ≤ 4 → (wk S f va k tb).2 = (0, l, x) → (4 : Int) - k ≤ l ∧ l ≤ 3 ∧ mf S l x = 0 ∧ rdK l x ≠ 1
 | 0, tb, _, h => by unfold wk at h; exact absurd (congrArg Prod.fst h) (show ¬ (1 : Int) = 0 by decide)
 | k + 1, tb, hk, h => by
  by_cases he : errA S (tb + 8 * idxN va (3 - k)) = 0
  ·by_cases hm : mf S (3 - k) (f (tb + 8 * idxN va (3 - k))) = 0
   ·by_cases hr : rdK (3 - k) (f (tb + 8 * idxN va (3 - k))) = 1
    ·rw [wk_table rfl rfl he hm hr] at h
     obtain ⟨h1, h2⟩ := wk_level (k := k) (by omega) h
     exact ⟨by omega, h2⟩
    ·rw [wk_leaf rfl rfl he hm hr] at h
     have e1 := congrArg (fun q => q.2.1) h
     have e2 := congrArg (fun q => q.2.2) h
     simp only at e1 e2
     subst e1
     rw [e2] at hm hr
     exact ⟨by omega, by omega, hm, hr⟩
   ·rw [qfi rfl rfl he hm] at h
    exact absurd (congrArg Prod.fst h) hm
  ·rw [wk_err rfl rfl he] at h
   exact absurd (congrArg Prod.fst h) (show ¬ (4 : Int) = 0 by decide)
theorem wk0_leaf {S : Nat} {f : Nat → Nat} {tb va : Nat} {l l0 : Int} {x : Nat} (h : (wk0 S f l0 tb va).2 = (0, l, x)) : isLv l0 = true ∧ tb % 4096 = 0 ∧ va < 281474976710656 ∧ l0 ≤ l ∧ isLv l = true ∧ mf S l x = 0 ∧ rdK l x ≠ 1 := by
 unfold wk0 at h
 split at h
 ·rename_i hc
  have h4 := qdf hc.1
  have := wk_level (by omega) h
  exact ⟨hc.1, hc.2.1, hc.2.2, by omega, decide_eq_true (by omega), this.2.2⟩
 ·exact absurd (congrArg Prod.fst h) (show ¬ (1 : Int) = 0 by decide)
theorem lowK_val {l : Int} (hl : isLv l = true) : (lowK l : Int) = 39 - 9 * l := (qcg hl).2.2.2
end Go.Proofs.YtfdbdeckohaneaaGreatDoor
namespace Go.Proofs.YtfdbdeckohaneaaGreatDoor.TR
open Go.RowKit Go.Maps
theorem bst_in (p : En → Bool) (l : List En) : ∀ i, i ≤ l.length → bstI p l i = e0 ∨ (bstI p l i ∈ l ∧ p (bstI p l i) = true)
 | 0, _ => Or.inl rfl
 | i + 1, hi => by
  have ih := bst_in p l i (by omega)
  unfold bstI
  split
  ·rename_i h
   rw [Bool.and_eq_true] at h
   exact Or.inr ⟨gE_mem l i (by omega), h.1⟩
  ·exact ih
theorem wk_lt {S : Nat} {f : Nat → Nat} {va : Nat} (hf : ∀ x, f x < 18446744073709551616) (hS : S ≤ 4294967296) : ∀ {k tb : Nat} {q : Nat × Nat}, q ∈ (wk S f va k tb).1 → q.1 < 18446744073709551616 ∧ q.2 < 18446744073709551616
 | 0, tb, q, h => by unfold wk at h; cases h
 | k + 1, tb, q, h => by
  by_cases he : errA S (tb + 8 * idxN va (3 - k)) = 0
  ·have hlt : tb + 8 * idxN va (3 - k) < S := by
    unfold errA at he
    split at he
    ·cases he
    ·split at he
     ·cases he
     ·omega
   by_cases hm : mf S (3 - k) (f (tb + 8 * idxN va (3 - k))) = 0
   ·by_cases hq : rdK (3 - k) (f (tb + 8 * idxN va (3 - k))) = 1
    ·rw [wk_table rfl rfl he hm hq] at h
     rcases List.mem_cons.1 h with rfl | h1
     ·exact ⟨by show tb + 8 * idxN va (3 - k) < _; omega, hf _⟩
     ·exact wk_lt hf hS h1
    ·rw [wk_leaf rfl rfl he hm hq] at h
     obtain rfl := List.mem_singleton.1 h
     exact ⟨by show tb + 8 * idxN va (3 - k) < _; omega, hf _⟩
   ·rw [qfi rfl rfl he hm] at h
    obtain rfl := List.mem_singleton.1 h
    exact ⟨by show tb + 8 * idxN va (3 - k) < _; omega, hf _⟩
  ·rw [wk_err rfl rfl he] at h
   cases h
theorem wk0_lt {S : Nat} {f : Nat → Nat} {va tb : Nat} {l : Int} (hf : ∀ x, f x < 18446744073709551616) (hS : S ≤ 4294967296) (i : Nat) : (wk0 S f l tb va).1[i]!.1 < 18446744073709551616 ∧ (wk0 S f l tb va).1[i]!.2 < 18446744073709551616 := by
 by_cases hi : i < (wk0 S f l tb va).1.length
 ·have hm : (wk0 S f l tb va).1[i]! ∈ (wk0 S f l tb va).1 := by rw [getElem!_pos _ i hi]; exact List.getElem_mem hi
  generalize (wk0 S f l tb va).1[i]! = q at *
  unfold wk0 at hm
  split at hm
  ·exact wk_lt hf hS hm
  ·cases hm
 ·rw [getElem!_neg _ i hi]
  exact ⟨by decide, by decide⟩
end Go.Proofs.YtfdbdeckohaneaaGreatDoor.TR
namespace Go.Proofs.YtfdbdeckohaneaaGreatDoor
open Go.RowKit
structure Asid (w : World) : Prop where
 s0 : w.cell? ⟨1, 0, none⟩ = some (.int .i64 48)
 s1 : w.cell? ⟨1, 1, none⟩ = some (.int .i64 8)
theorem Asid.later {w w' : World} (h : Asid w) (hb : Below w.heap.size w w') : Asid w' := ⟨cell_later hb h.s0, cell_later hb h.s1⟩
theorem right488 : qbj ((48 : Nat) : Int) ((8 : Nat) : Int) = true := by decide
theorem base_ok (x n : Nat) (hx : x < 18446744073709551616) (ha : qaq x 12 = true) (ho : qct x 12 = true) (hn : n ≤ 255) (w : World) (hF : Flds w) (hS : Asid w) :
  Calls Tryz.prog 73 #[.int .u64 x, .int .i64 (n : Int)] w fun e w' => e = .returned (.tuple #[.int .u64 ((x + n * 281474976710656 : Nat) : Int), .int .i64 0]) ∧ Below w.heap.size w w' := by
 have cA := fun w1 => qdt x 12 hx w1
 have cO := fun w1 h => isOut_any x 12 hx w1 h
 have hlt : x < 281474976710656 ∧ x % 4096 = 0 := by
  have := isOut_mod x 12 hx (by omega) (by omega)
  rw [show ((12 : Nat) : Int) = 12 from rfl, ho] at this
  exact of_decide_eq_true this.symm
 have hP : putX 48 8 x n = x + n * 281474976710656 := by
  have h := putX_mod right488 (v := n) (by omega) x hx
  rw [show putX 48 8 x n = putX ((48 : Nat) : Int) ((8 : Nat) : Int) x n from rfl, h]
  omega
 have hE : putE 48 8 n = 0 := by
  have : ones 8 = 255 := by decide +kernel
  unfold putE; rw [if_neg (by decide), if_neg (by omega)]
 have cP := fun w1 => put_any 48 8 x n hx w1
 have hwr : IntKind.u64.wrap (n : Int) = (n : Int) := by rw [IntKind.wrap_u64]; omega
 rw [hP, hE] at cP
 rw [ha] at cA
 rw [ho] at cO
 have h0 : ¬ (n : Int) < 0 := by omega
 have d0 : decide ((n : Int) < 0) = false := decide_eq_false h0
 have h1 : ¬ 255 < (n : Int) := by omega
 have h2 : ¬ 255 < n := by omega
 have d1 : decide (255 < (n : Int)) = false := decide_eq_false h1
 generalize x + n * 281474976710656 = V at *
 clear hP hE hlt ha ho
 go_enter Tryz.func73, Tryz.ntmps73
 go_wp2_with (first
  | (go_at_call 51; refine (cA _).mono ?_; rintro e w1 ⟨rfl, rfl⟩)
  | (go_at_call 112; refine (cO _ hF).mono ?_; rintro e w1 ⟨rfl, hbm⟩; have s0 := (hS.later hbm).s0; have s1 := (hS.later hbm).s1)
  | (go_at_call 113; refine (cP _).mono ?_; rintro e w2 ⟨rfl, hb2⟩))
 go_ret2
 exact ⟨rfl, qab hbm hb2⟩
def restR (x : Nat) : Nat := qdk x [(12, 36), (48, 8)]
theorem restR_mod (x : Nat) (hx : x < 18446744073709551616) : restR x = x / 72057594037927936 * 72057594037927936 + x % 4096 := by
 show andn (qdk x [(12, 36)]) (qcn 48 8) = _
 have h := andn_mod right488 (qdk x [(12, 36)]) (restV_lt x hx _)
 rw [show qcn 48 8 = qcn ((48 : Nat) : Int) ((8 : Nat) : Int) from rfl, h, rest_out x hx]
 omega
theorem readBase_bad (x : Nat) (hx : x < 18446744073709551616) (h : restR x ≠ 0) (w : World) (hF : Flds w) (hS : Asid w) :
  Calls Tryz.prog 36 #[.int .u64 x] w fun e w' => e = .returned (.tuple #[.int .u64 0, .int .i64 0, .int .i64 10]) ∧ Below w.heap.size w w' := by
 have o0 := hF.o0
 have o1 := hF.o1
 have s0 := hS.s0
 have s1 := hS.s1
 have hne : ((restR x : Int) != 0) = true := by rw [bne_iff_ne]; omega
 go_enter Tryz.func36, Tryz.ntmps36
 go_wp2_with fail
 refine (rest_some x hx [(12, 36), (48, 8)] _ _ (by decide) _ (fun i hi => ?_) (fun i hi => ?_)).mono ?_
 ·simp at hi
  rcases (show i = 0 ∨ i = 1 by omega) with rfl | rfl <;> simp
 ·simp at hi
  rcases (show i = 0 ∨ i = 1 by omega) with rfl | rfl <;> simp
 rintro e w1 ⟨rfl, hb⟩
 rw [show qdk x [(12, 36), (48, 8)] = restR x from rfl]
 generalize restR x = R at *
 go_wp2
 go_ret3
 exact ⟨rfl, qab (qac _ _) hb⟩
theorem readBase_ok (x : Nat) (hx : x < 18446744073709551616) (h : restR x = 0) (w : World) (hF : Flds w) (hS : Asid w) :
  Calls Tryz.prog 36 #[.int .u64 x] w fun e w' => e = .returned (.tuple #[.int .u64 ((outV x : Nat) : Int), .int .i64 ((getV 48 8 x : Nat) : Int), .int .i64 0]) ∧ Below w.heap.size w w' := by
 have o0 := hF.o0
 have o1 := hF.o1
 have s0 := hS.s0
 have s1 := hS.s1
 have hO : bits BinOp.and IntKind.u64 (x : Int) ((qcn 12 36 : Nat) : Int) = ((outV x : Nat) : Int) := bits_and_u64_nat _ _ hx (qfb _ _)
 have hw : IntKind.i64.wrap ((getV 48 8 x : Nat) : Int) = ((getV 48 8 x : Nat) : Int) := by
  have := getV_mod right488 x
  rw [show getV 48 8 x = getV ((48 : Nat) : Int) ((8 : Nat) : Int) x from rfl, this, IntKind.wrap_i64]; omega
 have cM := fun w1 => mask_any 12 36 w1
 have cG := fun w1 => get_any 48 8 x hx w1
 generalize getV 48 8 x = G at *
 generalize outV x = O at *
 generalize qcn 12 36 = M at *
 go_enter Tryz.func36, Tryz.ntmps36
 go_wp2_with fail
 refine (rest_some x hx [(12, 36), (48, 8)] _ _ (by decide) _ (fun i hi => ?_) (fun i hi => ?_)).mono ?_
 ·simp at hi
  rcases (show i = 0 ∨ i = 1 by omega) with rfl | rfl <;> simp
 ·simp at hi
  rcases (show i = 0 ∨ i = 1 by omega) with rfl | rfl <;> simp
 rintro e w1 ⟨rfl, hb⟩
 rw [show qdk x [(12, 36), (48, 8)] = restR x from rfl, h]
 have hB : Below w.heap.size w w1 := qab (qac _ _) hb
 have p0 := cell_later hB o0
 have p1 := cell_later hB o1
 have p2 := cell_later hB s0
 have p3 := cell_later hB s1
 clear hb o0 o1 s0 s1 hF hS h
 go_wp2
 go_region_held3 (fun w' => w'.cell? ⟨0, 0, none⟩ = some (.int .i64 12) ∧ w'.cell? ⟨0, 1, none⟩ = some (.int .i64 36) ∧ w'.cell? ⟨1, 0, none⟩ = some (.int .i64 48) ∧ w'.cell? ⟨1, 1, none⟩ = some (.int .i64 8) ∧ Below w.heap.size w w')
  ((go_split_ands; refine ⟨?_, ?_, ?_, ?_, ?_⟩ <;> first | (assumption; done) | exact cell_later hbm (by assumption) | exact qab (by assumption) hbm | exact Below.drew (by assumption) | (go_keep; done)))
  (first
   | (go_at_call 75; refine (cM _).mono ?_; rintro e w' ⟨rfl, hbm⟩)
   | (go_at_call 76; refine (cG _).mono ?_; rintro e w' ⟨rfl, hbm⟩))
 all_goals go_wp2
 all_goals go_ret3
 all_goals exact ⟨rfl, by go_split_ands; assumption⟩
def letK (u wr x s : Bool) (ac : Int) : Int := if s = false then 2 else if u = false then 3 else if ac = 2 then (if wr = false then 3 else 0) else if ac = 3 then (if x = false then 3 else 0) else 0
def letL (u wr x s : Bool) (l ac : Int) : Int := if letK u wr x s ac = 0 then 0 else l
theorem zP29x02 {Z : Prop} (z : Z := by
 go_enter Tryz.func38, Tryz.ntmps38
 go_wp2
 refine bodyPost_ret (v := .agg #[.int .i64 _, .int .i64 _]) ?_ rfl ⟨rfl, (qac _ _).alloc (by simp) _⟩
 exact results_cell_row rfl _ _ (w.heap.size + 1) 50 _ _ _ rfl (by rw [heap_alloc2_new]) Tryz.underlying50 rfl (by kernel_rfl)) : Z := z
theorem zP29x11 {Z : Prop} (z : Z := by
 unfold dv
 cases s
 ·rw [show letK u wr x false ac = 2 by rfl, show letL u wr x false l ac = l by rfl]
  first
  | exact zP29x02
  | exact zP29x03
 cases u
 ·rw [show letK false wr x true ac = 3 by rfl, show letL false wr x true l ac = l by rfl]
  first
  | exact zP29x02
  | exact zP29x03
 by_cases h2 : ac = 2
 ·subst h2
  cases wr
  ·rw [show letK true false x true 2 = 3 by rfl, show letL true false x true l 2 = l by rfl]
   first
   | exact zP29x02
   | exact zP29x03
  ·rw [show letK true true x true 2 = 0 by rfl, show letL true true x true l 2 = 0 by rfl]
   first
   | exact zP29x02
   | exact zP29x03
 have n2 : (ac == 2) = false := by rw [beq_eq_false_iff_ne]; omega
 by_cases h3 : ac = 3
 ·subst h3
  cases x
  ·rw [show letK true wr false true 3 = 3 by rfl, show letL true wr false true l 3 = l by rfl]
   first
   | exact zP29x02
   | exact zP29x03
  ·rw [show letK true wr true true 3 = 0 by rfl, show letL true wr true true l 3 = 0 by rfl]
   first
   | exact zP29x02
   | exact zP29x03
 have n3 : (ac == 3) = false := by rw [beq_eq_false_iff_ne]; omega
 have e1 : letK true wr x true ac = 0 := by unfold letK; simp [h2, h3]
 have e2 : letL true wr x true l ac = 0 := by unfold letL; simp [e1]
 rw [e1, e2]
 clear e1 e2
 first
 | exact zP29x02
 | exact zP29x03) : Z := z
theorem let_any (k : Int) (o : Nat) (u wr x s : Bool) (a l ac : Int) (w : World) :
  Calls Tryz.prog 38 #[dv k o u wr x s a, .int .i64 l, .int .i64 ac] w fun e w' => e = .returned (.agg #[.int .i64 (letK u wr x s ac), .int .i64 (letL u wr x s l ac)]) ∧ Below w.heap.size w w' := by
 exact zP29x11
theorem zP29x03 {Z : Prop} (z : Z := by
 go_enter Tryz.func57, Tryz.ntmps57
 go_wp2
 refine bodyPost_ret (v := .agg #[.int .i64 _, .int .i64 _]) ?_ rfl ⟨rfl, (qac _ _).alloc (by simp) _⟩
 exact results_cell_row rfl _ _ (w.heap.size + 1) 65 _ _ _ rfl (by rw [heap_alloc2_new]) Tryz.underlying65 rfl (by kernel_rfl)) : Z := z
theorem qds (k : Int) (o : Nat) (u wr x s : Bool) (a l ac : Int) (w : World) :
  Calls Tryz.prog 57 #[dv k o u wr x s a, .int .i64 l, .int .i64 ac] w fun e w' => e = .returned (.agg #[.int .i64 (letK u wr x s ac), .int .i64 (letL u wr x s l ac)]) ∧ Below w.heap.size w w' := by
 exact zP29x11
end Go.Proofs.YtfdbdeckohaneaaGreatDoor
namespace Go.Proofs.YtfdbdeckohaneaaGreatDoor.MM
open Go.RowKit Go.Maps
structure Hn where
 fill : Bool
 led : Bool
 keep : Bool
abbrev Hn.v (h : Hn) : Value := .agg #[.bool h.fill, .bool h.led, .bool h.keep]
structure Pl where
 va : Nat
 h : Hn
def Pl.cs (p : Pl) : List Value := [.int .u64 (p.va : Int), .bool p.h.fill, .bool p.h.led, .bool p.h.keep]
def p0 : Pl := ⟨0, false, false, false⟩
def gP (l : List Pl) (i : Nat) : Pl := l.getD i p0
structure St where
 f : Nat → Nat
 E : List TB.En
 K : List TR.En
 rg : Option (Nat × Nat)
 P : List Pl
def rgV : Option (Nat × Nat) → Value
 | none => .nilIface
 | some (r, i) => .iface 106 (.agg #[.int .u64 r, .int .i64 i])
structure Wf (most : Int) (s : St) : Prop where
 m1 : 1 ≤ most
 m64 : most ≤ 64
 el : (s.E.length : Int) ≤ most
 kl : (s.K.length : Int) ≤ most
 er : ∀ e ∈ s.E, TB.qbe e = true
 eo : ∀ e ∈ s.E, e.ok
 kr : ∀ e ∈ s.K, e.okR
 rr : ∀ r i, s.rg = some (r, i) → r < 281474976710656 ∧ r % 4096 = 0 ∧ i ≤ 255
 pl : s.P.length ≤ 8
 pv : ∀ p ∈ s.P, p.va < 18446744073709551616
 nd : s.E.Nodup
structure FA (w : World) : Prop where
 t : TR.Flds w
 a : Asid w
theorem FA.later {w w' : World} (h : FA w) (hb : Below w.heap.size w w') : FA w' := ⟨h.t.later hb, h.a.later hb⟩
def PlA (w : World) (X : Nat → Prop) (v : Value) (P : List Pl) : Prop :=
 ∃ ad cap, v = .slice ad P.length cap ∧ ∀ i, i < P.length → ∃ g, ad = some ⟨g, 0, none⟩ ∧ g < w.heap.size ∧ X g ∧ ∀ j u, (gP P i).cs[j]? = some u → w.cell? ⟨g, i * 4 + j, none⟩ = some u
theorem PlA.kept {w w' : World} {X Y : Nat → Prop} {v : Value} {P : List Pl} (h : PlA w X v P) (hs : w.heap.size ≤ w'.heap.size) (hb : ∀ g, X g → g < w.heap.size → Y g ∧ w'.heap[g]? = w.heap[g]?) : PlA w' Y v P := by
 obtain ⟨ad, cap, rfl, hc⟩ := h
 refine ⟨ad, cap, rfl, fun i hi => ?_⟩
 obtain ⟨g, rfl, hg, hX, hq⟩ := hc i hi
 obtain ⟨h1, h2⟩ := hb g hX hg
 exact ⟨g, rfl, Nat.lt_of_lt_of_le hg hs, h1, fun j u hu => (World.cell?_of_block (a := ⟨g, i * 4 + j, none⟩) h2).trans (hq j u hu)⟩
structure MchV (w0 w : World) (X XM XB XT : Nat → Prop) (x a tb tr n S : Nat) (most : Int) (s : St) (pv : Value) : Prop where
 row : w.heap[x]? = some (.cells #[.pointer (some ⟨a, 0, none⟩), .pointer (some ⟨tb, 0, none⟩), .pointer (some ⟨tr, 0, none⟩), rgV s.rg, pv] 110 (0, 0))
 mem : qcw w XM a S n s.f
 buf : TB.Buf w XB tb most s.E
 trl : TR.Buf w XT tr most s.K
 pln : PlA w (fun g => X g ∧ ¬ XM g ∧ ¬ XB g ∧ ¬ XT g ∧ g ≠ x) pv s.P
 dmb : ∀ i, XM i → ¬ XB i
 dmt : ∀ i, XM i → ¬ XT i
 dbt : ∀ i, XB i → ¬ XT i
 dm : ¬ XM x
 db : ¬ XB x
 dt : ¬ XT x
 cm : ∀ i, XM i → X i
 cb : ∀ i, XB i → X i
 ct : ∀ i, XT i → X i
 cx : X x
 lt : ∀ i, X i → i < w.heap.size
 lo : ∀ i, X i → w0.heap.size ≤ i
 bel : Below w0.heap.size w0 w
 fa : FA w0
 wf : Wf most s
def Mch (w0 w : World) (X : Nat → Prop) (x a n S : Nat) (most : Int) (s : St) : Prop := ∃ XM XB XT tb tr pv, MchV w0 w X XM XB XT x a tb tr n S most s pv
theorem qfp {w w' : World} {X : Nat → Prop} {t : Nat} {most : Int} {l : List TB.En} (h : TB.Buf w X t most l) (hb : ∀ i, X i → w'.heap[i]? = w.heap[i]?) (hs : w.heap.size ≤ w'.heap.size) : TB.Buf w' X t most l := by
 obtain ⟨v, h⟩ := h
 exact ⟨v, h.kept hb hs⟩
theorem trl_keep {w w' : World} {X : Nat → Prop} {t : Nat} {most : Int} {l : List TR.En} (h : TR.Buf w X t most l) (hb : ∀ i, X i → w'.heap[i]? = w.heap[i]?) (hs : w.heap.size ≤ w'.heap.size) : TR.Buf w' X t most l := by
 obtain ⟨v, h⟩ := h
 exact ⟨v, h.kept hb hs⟩
theorem mem_keep {w w' : World} {X : Nat → Prop} {a S n : Nat} {f : Nat → Nat} (h : qcw w X a S n f) (hb : ∀ i, X i → w'.heap[i]? = w.heap[i]?) (hs : w.heap.size ≤ w'.heap.size) : qcw w' X a S n f := by
 obtain ⟨mb, pg, h⟩ := h
 exact ⟨mb, pg, h.kept hb hs⟩
theorem tbuf_lt {w : World} {X : Nat → Prop} {t : Nat} {most : Int} {l : List TB.En} (h : TB.Buf w X t most l) : ∀ i, X i → i < w.heap.size := by
 obtain ⟨v, h⟩ := h
 exact h.lt
section
variable {w0 w w' : World} {X XM XB XT : Nat → Prop} {x a tb tr n S : Nat} {most : Int} {s : St} {pv : Value}
theorem MchV.kept (h : MchV w0 w X XM XB XT x a tb tr n S most s pv) (hb : ∀ i, X i → w'.heap[i]? = w.heap[i]?) (hs : w.heap.size ≤ w'.heap.size) (hB : Below w0.heap.size w0 w') : MchV w0 w' X XM XB XT x a tb tr n S most s pv :=
 ⟨(hb x h.cx).trans h.row, mem_keep h.mem (fun i hi => hb i (h.cm i hi)) hs, qfp h.buf (fun i hi => hb i (h.cb i hi)) hs, trl_keep h.trl (fun i hi => hb i (h.ct i hi)) hs, h.pln.kept hs (fun g hg _ => ⟨hg, hb g hg.1⟩),
   h.dmb, h.dmt, h.dbt, h.dm, h.db, h.dt, h.cm, h.cb, h.ct, h.cx, fun i hi => Nat.lt_of_lt_of_le (h.lt i hi) hs, h.lo, hB, h.fa, h.wf⟩
theorem MchV.later (h : MchV w0 w X XM XB XT x a tb tr n S most s pv) (hb : Below w.heap.size w w') : MchV w0 w' X XM XB XT x a tb tr n S most s pv :=
 h.kept (fun i hi => hb.block i (h.lt i hi)) hb.size (qab h.bel hb)
theorem Mch.later (h : Mch w0 w X x a n S most s) (hb : Below w.heap.size w w') : Mch w0 w' X x a n S most s := by
 obtain ⟨XM, XB, XT, tb, tr, pv, h⟩ := h
 exact ⟨XM, XB, XT, tb, tr, pv, h.later hb⟩
theorem Mch.turn {Y : Nat → Prop} (h : Mch w0 w X x a n S most s) (ht : Turn Y w w') (hd : ∀ i, X i → ¬ Y i) (hY : ∀ i, Y i → w0.heap.size ≤ i) : Mch w0 w' X x a n S most s := by
 obtain ⟨XM, XB, XT, tb, tr, pv, h⟩ := h
 exact ⟨XM, XB, XT, tb, tr, pv, h.kept (fun i hi => ht.block i (h.lt i hi) (hd i hi)) ht.size (h.bel.trans (ht.below hY h.bel.size))⟩
theorem MchV.flds (h : MchV w0 w X XM XB XT x a tb tr n S most s pv) {W : World} (ht : Turn X w W) : FA W := h.fa.later (h.bel.trans (ht.below h.lo h.bel.size))
theorem MchV.fld (h : MchV w0 w X XM XB XT x a tb tr n S most s pv) : FA w := h.fa.later h.bel
theorem MchV.wide {Y : Nat → Prop} (h : MchV w0 w X XM XB XT x a tb tr n S most s pv) (h1 : ∀ i, X i → Y i) (h2 : ∀ i, Y i → i < w.heap.size ∧ w0.heap.size ≤ i) : MchV w0 w Y XM XB XT x a tb tr n S most s pv :=
 ⟨h.row, h.mem, h.buf, h.trl, h.pln.kept (Nat.le_refl _) (fun g hg _ => ⟨⟨h1 g hg.1, hg.2⟩, rfl⟩), h.dmb, h.dmt, h.dbt, h.dm, h.db, h.dt, fun i hi => h1 i (h.cm i hi), fun i hi => h1 i (h.cb i hi), fun i hi => h1 i (h.ct i hi), h1 x h.cx, fun i hi => (h2 i hi).1, fun i hi => (h2 i hi).2, h.bel, h.fa, h.wf⟩
theorem Mch.wide {Y : Nat → Prop} (h : Mch w0 w X x a n S most s) (h1 : ∀ i, X i → Y i) (h2 : ∀ i, Y i → i < w.heap.size ∧ w0.heap.size ≤ i) : Mch w0 w Y x a n S most s := by
 obtain ⟨XM, XB, XT, tb, tr, pv, h⟩ := h
 exact ⟨XM, XB, XT, tb, tr, pv, h.wide h1 h2⟩
theorem mem_mono {m : Nat} {f : Nat → Nat} (h : qcw w X a S n f) (hn : n ≤ m) : qcw w X a S m f := by
 obtain ⟨mb, pg, h⟩ := h
 exact ⟨mb, pg, h.str, h.pgs.mono hn, h.xa, h.xm, h.xlt, h.s0, h.page, h.inj, h.zero, h.fl, h.out⟩
theorem Mch.mono {m : Nat} (h : Mch w0 w X x a n S most s) (hn : n ≤ m) : Mch w0 w X x a m S most s := by
 obtain ⟨XM, XB, XT, tb, tr, pv, h⟩ := h
 exact ⟨XM, XB, XT, tb, tr, pv, h.row, mem_mono h.mem hn, h.buf, h.trl, h.pln, h.dmb, h.dmt, h.dbt, h.dm, h.db, h.dt, h.cm, h.cb, h.ct, h.cx, h.lt, h.lo, h.bel, h.fa, h.wf⟩
theorem Mch.ltX (h : Mch w0 w X x a n S most s) : ∀ i, X i → i < w.heap.size := by
 obtain ⟨XM, XB, XT, tb, tr, pv, h⟩ := h
 exact h.lt
theorem Mch.loX (h : Mch w0 w X x a n S most s) : ∀ i, X i → w0.heap.size ≤ i := by
 obtain ⟨XM, XB, XT, tb, tr, pv, h⟩ := h
 exact h.lo
theorem Mch.bl (h : Mch w0 w X x a n S most s) : Below w0.heap.size w0 w := by
 obtain ⟨XM, XB, XT, tb, tr, pv, h⟩ := h
 exact h.bel
theorem Mch.wfm (h : Mch w0 w X x a n S most s) : Wf most s := by
 obtain ⟨XM, XB, XT, tb, tr, pv, h⟩ := h
 exact h.wf
theorem gr_in {i : Nat} (hs : w.heap.size ≤ w'.heap.size) (h : ∀ i, X i → i < w.heap.size) (h0 : ∀ i, X i → w0.heap.size ≤ i) (hb : w0.heap.size ≤ w.heap.size) : Gr X w w' i → i < w'.heap.size ∧ w0.heap.size ≤ i := fun hi => by
 rcases hi with hi | hi
 ·exact ⟨Nat.lt_of_lt_of_le (h i hi) hs, h0 i hi⟩
 ·exact ⟨hi.2, Nat.le_trans hb hi.1⟩
theorem Mch.gr2 {w1 w2 w3 : World} {m : Nat} {s' : St} (h0 : Mch w0 w X x a n S most s) (h1 : Below w.heap.size w w1) (ht1 : Turn X w1 w2) (h2 : Below w2.heap.size w2 w3) (h : Mch w0 w' (Gr (Gr X w1 w2) w3 w') x a m S most s') (ht2 : Turn (Gr X w1 w2) w3 w') : Mch w0 w' (Gr X w w') x a m S most s' ∧ Turn X w w' := by
 have e1 := h1.size
 have e2 := ht1.size
 have e3 := h2.size
 have e4 := ht2.size
 have e5 := h0.bl.size
 refine ⟨h.wide (fun i hi => ?_) (fun _ hi => gr_in (by omega) h0.ltX h0.loX e5 hi), ?_⟩
 ·rcases hi with (hi | hi) | hi
  ·exact Or.inl hi
  ·exact Or.inr ⟨by omega, by omega⟩
  ·exact Or.inr ⟨by omega, by omega⟩
 ·refine (qak X h1).trans ((ht1.trans (qak X h2) (fun _ _ h => h)).trans ht2 ?_) (fun _ _ h => h)
  intro i hi hX
  rcases hX with hX | hX
  ·exact hX
  ·omega
theorem Mch.gr1 {w1 w2 : World} {m : Nat} {s' : St} (h0 : Mch w0 w X x a n S most s) (h1 : Below w.heap.size w w1) (ht1 : Turn X w1 w2) (h2 : Below w2.heap.size w2 w') (h : Mch w0 w2 (Gr X w1 w2) x a m S most s') : Mch w0 w' (Gr X w w') x a m S most s' ∧ Turn X w w' := by
 have e1 := h1.size
 have e2 := ht1.size
 have e3 := h2.size
 have e5 := h0.bl.size
 refine ⟨(h.later h2).wide (fun i hi => ?_) (fun _ hi => gr_in (by omega) h0.ltX h0.loX e5 hi), ?_⟩
 ·rcases hi with hi | hi
  ·exact Or.inl hi
  ·exact Or.inr ⟨by omega, by omega⟩
 ·exact (qak X h1).trans (ht1.trans (qak X h2) (fun _ _ h => h)) (fun _ _ h => h)
theorem Mch.gr0 (h : Mch w0 w X x a n S most s) (hb : Below w.heap.size w w') : Mch w0 w' (Gr X w w') x a n S most s ∧ Turn X w w' :=
 ⟨(h.later hb).wide (fun _ hi => Or.inl hi) (fun _ hi => gr_in hb.size h.ltX h.loX h.bl.size hi), qak X hb⟩
theorem MchV.wrote {m : Nat} {f' : Nat → Nat} (h : MchV w0 w X XM XB XT x a tb tr n S most s pv) (ht : Turn XM w w') (hM : qcw w' (Gr XM w w') a S m f') : Mch w0 w' (Gr X w w') x a m S most { s with f := f' } ∧ Turn X w w' := by
 have hT : Turn X w w' := ⟨ht.os, ht.tape, ht.output, ht.size, fun i hi hX => ht.block i hi (fun c => hX (h.cm i c))⟩
 have hk : ∀ i, X i → ¬ XM i → w'.heap[i]? = w.heap[i]? := fun i hi hn => ht.block i (h.lt i hi) hn
 have key : ∀ i, Gr XM w w' i → X i → XM i := fun i hi hX => by
  rcases hi with hi | hi
  ·exact hi
  ·exact absurd (h.lt i hX) (Nat.not_lt.2 hi.1)
 refine ⟨⟨Gr XM w w', XB, XT, tb, tr, pv, (hk x h.cx h.dm).trans h.row, hM, qfp h.buf (fun i hi => hk i (h.cb i hi) (fun c => h.dmb i c hi)) ht.size, trl_keep h.trl (fun i hi => hk i (h.ct i hi) (fun c => h.dmt i c hi)) ht.size,
  h.pln.kept ht.size (fun g hg _ => ⟨⟨Or.inl hg.1, fun c => hg.2.1 (key g c hg.1), hg.2.2⟩, hk g hg.1 hg.2.1⟩), fun i hi hb => h.dmb i (key i hi (h.cb i hb)) hb, fun i hi hb => h.dmt i (key i hi (h.ct i hb)) hb, h.dbt, fun c => h.dm (key x c h.cx), h.db, h.dt,
  fun i hi => ?_, fun i hi => Or.inl (h.cb i hi), fun i hi => Or.inl (h.ct i hi), Or.inl h.cx, fun i hi => (gr_in ht.size h.lt h.lo h.bel.size hi).1, fun i hi => (gr_in ht.size h.lt h.lo h.bel.size hi).2, h.bel.trans (hT.below h.lo h.bel.size), h.fa, ⟨h.wf.m1, h.wf.m64, h.wf.el, h.wf.kl, h.wf.er, h.wf.eo, h.wf.kr, h.wf.rr, h.wf.pl, h.wf.pv, h.wf.nd⟩⟩, hT⟩
 rcases hi with hi | hi
 ·exact Or.inl (h.cm i hi)
 ·exact Or.inr hi
theorem MchV.filled {E' : List TB.En} (h : MchV w0 w X XM XB XT x a tb tr n S most s pv) (ht : Turn XB w w') (hM : TB.Buf w' (TB.Xp XB w w') tb most E') (hwf : Wf most { s with E := E' }) : Mch w0 w' (Gr X w w') x a n S most { s with E := E' } ∧ Turn X w w' := by
 have hT : Turn X w w' := ⟨ht.os, ht.tape, ht.output, ht.size, fun i hi hX => ht.block i hi (fun c => hX (h.cb i c))⟩
 have hk : ∀ i, X i → ¬ XB i → w'.heap[i]? = w.heap[i]? := fun i hi hn => ht.block i (h.lt i hi) hn
 have key : ∀ i, TB.Xp XB w w' i → X i → XB i := fun i hi hX => by
  rcases hi with hi | hi
  ·exact hi
  ·exact absurd (h.lt i hX) (Nat.not_lt.2 hi.1)
 refine ⟨⟨XM, TB.Xp XB w w', XT, tb, tr, pv, (hk x h.cx h.db).trans h.row, mem_keep h.mem (fun i hi => hk i (h.cm i hi) (fun c => h.dmb i hi c)) ht.size, hM, trl_keep h.trl (fun i hi => hk i (h.ct i hi) (fun c => h.dbt i c hi)) ht.size,
  h.pln.kept ht.size (fun g hg _ => ⟨⟨Or.inl hg.1, hg.2.1, fun c => hg.2.2.1 (key g c hg.1), hg.2.2.2⟩, hk g hg.1 hg.2.2.1⟩), fun i hi hb => h.dmb i hi (key i hb (h.cm i hi)), h.dmt, fun i hi hb => h.dbt i (key i hi (h.ct i hb)) hb, h.dm, fun c => h.db (key x c h.cx), h.dt,
  fun i hi => Or.inl (h.cm i hi), fun i hi => ?_, fun i hi => Or.inl (h.ct i hi), Or.inl h.cx, fun i hi => (gr_in ht.size h.lt h.lo h.bel.size hi).1, fun i hi => (gr_in ht.size h.lt h.lo h.bel.size hi).2, h.bel.trans (hT.below h.lo h.bel.size), h.fa, hwf⟩, hT⟩
 rcases hi with hi | hi
 ·exact Or.inl (h.cb i hi)
 ·exact Or.inr hi
theorem MchV.marked {K' : List TR.En} (h : MchV w0 w X XM XB XT x a tb tr n S most s pv) (ht : Turn XT w w') (hM : TR.Buf w' (TR.Xp XT w w') tr most K') (hwf : Wf most { s with K := K' }) : Mch w0 w' (Gr X w w') x a n S most { s with K := K' } ∧ Turn X w w' := by
 have hT : Turn X w w' := ⟨ht.os, ht.tape, ht.output, ht.size, fun i hi hX => ht.block i hi (fun c => hX (h.ct i c))⟩
 have hk : ∀ i, X i → ¬ XT i → w'.heap[i]? = w.heap[i]? := fun i hi hn => ht.block i (h.lt i hi) hn
 have key : ∀ i, TR.Xp XT w w' i → X i → XT i := fun i hi hX => by
  rcases hi with hi | hi
  ·exact hi
  ·exact absurd (h.lt i hX) (Nat.not_lt.2 hi.1)
 refine ⟨⟨XM, XB, TR.Xp XT w w', tb, tr, pv, (hk x h.cx h.dt).trans h.row, mem_keep h.mem (fun i hi => hk i (h.cm i hi) (fun c => h.dmt i hi c)) ht.size, qfp h.buf (fun i hi => hk i (h.cb i hi) (fun c => h.dbt i hi c)) ht.size, hM,
  h.pln.kept ht.size (fun g hg _ => ⟨⟨Or.inl hg.1, hg.2.1, hg.2.2.1, fun c => hg.2.2.2.1 (key g c hg.1), hg.2.2.2.2⟩, hk g hg.1 hg.2.2.2.1⟩), h.dmb, fun i hi hb => h.dmt i hi (key i hb (h.cm i hi)), fun i hi hb => h.dbt i hi (key i hb (h.cb i hi)), h.dm, h.db, fun c => h.dt (key x c h.cx),
  fun i hi => Or.inl (h.cm i hi), fun i hi => Or.inl (h.cb i hi), fun i hi => ?_, Or.inl h.cx, fun i hi => (gr_in ht.size h.lt h.lo h.bel.size hi).1, fun i hi => (gr_in ht.size h.lt h.lo h.bel.size hi).2, h.bel.trans (hT.below h.lo h.bel.size), h.fa, hwf⟩, hT⟩
 rcases hi with hi | hi
 ·exact Or.inl (h.ct i hi)
 ·exact Or.inr hi
theorem MchV.rowed {w1 : World} {rg' : Option (Nat × Nat)} {P' : List Pl} {pv' : Value} (h : MchV w0 w X XM XB XT x a tb tr n S most s pv) (hb : Below w.heap.size w w1) (ht : Turn (fun i => i = x) w1 w') (hr : w'.heap[x]? = some (.cells #[.pointer (some ⟨a, 0, none⟩), .pointer (some ⟨tb, 0, none⟩), .pointer (some ⟨tr, 0, none⟩), rgV rg', pv'] 110 (0, 0)))
  (hp : PlA w' (fun g => Gr X w w' g ∧ ¬ XM g ∧ ¬ XB g ∧ ¬ XT g ∧ g ≠ x) pv' P') (hwf : Wf most { s with rg := rg', P := P' }) : Mch w0 w' (Gr X w w') x a n S most { s with rg := rg', P := P' } ∧ Turn X w w' := by
 have hs : w.heap.size ≤ w'.heap.size := Nat.le_trans hb.size ht.size
 have hT : Turn X w w' := (qak X hb).trans ht (fun i _ hi => by rw [hi]; exact h.cx)
 have hk : ∀ i, X i → i ≠ x → w'.heap[i]? = w.heap[i]? := fun i hi hn => (ht.block i (Nat.lt_of_lt_of_le (h.lt i hi) hb.size) hn).trans (hb.block i (h.lt i hi))
 exact ⟨⟨XM, XB, XT, tb, tr, pv', hr, mem_keep h.mem (fun i hi => hk i (h.cm i hi) (fun c => h.dm (c ▸ hi))) hs, qfp h.buf (fun i hi => hk i (h.cb i hi) (fun c => h.db (c ▸ hi))) hs, trl_keep h.trl (fun i hi => hk i (h.ct i hi) (fun c => h.dt (c ▸ hi))) hs,
  hp, h.dmb, h.dmt, h.dbt, h.dm, h.db, h.dt, fun i hi => Or.inl (h.cm i hi), fun i hi => Or.inl (h.cb i hi), fun i hi => Or.inl (h.ct i hi), Or.inl h.cx, fun i hi => (gr_in hs h.lt h.lo h.bel.size hi).1, fun i hi => (gr_in hs h.lt h.lo h.bel.size hi).2, h.bel.trans (hT.below h.lo h.bel.size), h.fa, hwf⟩, hT⟩
end
theorem row5 {w : World} {x : Nat} {c0 c1 c2 c3 c4 : Value} {T : TypeId} (h : w.heap[x]? = some (.cells #[c0, c1, c2, c3, c4] T (0, 0))) :
  w.cell? ⟨x, 0, none⟩ = some c0 ∧ w.cell? ⟨x, 1, none⟩ = some c1 ∧ w.cell? ⟨x, 2, none⟩ = some c2 ∧ w.cell? ⟨x, 3, none⟩ = some c3 ∧ w.cell? ⟨x, 4, none⟩ = some c4 := by
 refine ⟨?_, ?_, ?_, ?_, ?_⟩
 all_goals (rw [cell_of_row _ _ _ _ _ _ h]; rfl)
def inB (m : Int) (k : Nat) : Bool := decide (0 ≤ m ∧ m < (k : Int))
def qce {α : Type} (l : List α) (n : Int) : List α := if n < 0 then l else l.eraseIdx n.toNat
theorem Wf.subE {most : Int} {s : St} {E' : List TB.En} (h : Wf most s) (hs : E'.Sublist s.E) : Wf most { s with E := E' } :=
 ⟨h.m1, h.m64, by have := hs.length_le; have := h.el; show (E'.length : Int) ≤ most; omega, h.kl, fun e he => h.er e (hs.subset he), fun e he => h.eo e (hs.subset he), h.kr, h.rr, h.pl, h.pv, h.nd.sublist hs⟩
theorem Wf.subK {most : Int} {s : St} {K' : List TR.En} (h : Wf most s) (hs : K'.Sublist s.K) : Wf most { s with K := K' } :=
 ⟨h.m1, h.m64, h.el, by have := hs.length_le; have := h.kl; show (K'.length : Int) ≤ most; omega, h.er, h.eo, fun e he => h.kr e (hs.subset he), h.rr, h.pl, h.pv, h.nd⟩
theorem Wf.el9 {most : Int} {s : St} (h : Wf most s) : s.E.length ≤ 64 ∧ s.K.length ≤ 64 := by have := h.el; have := h.kl; have := h.m64; omega
theorem drop_sub {α : Type} (l : List α) (n : Int) : (qce l n).Sublist l := by
 unfold qce
 split
 ·exact List.Sublist.refl _
 ·exact List.eraseIdx_sublist _ _
theorem keepB_sub (p : TB.En → Bool) (l : List TB.En) : (TB.qar p l).Sublist l := List.filter_sublist
theorem keepR_sub (p : TR.En → Bool) (l : List TR.En) : (TR.qar p l).Sublist l := List.filter_sublist
section
variable {w0 w : World} {X XM XB XT : Nat → Prop} {x a tb tr n S : Nat} {most : Int} {s : St} {pv : Value}
theorem MchV.drop (h : MchV w0 w X XM XB XT x a tb tr n S most s pv) (m : Int) :
  Calls Tryz.prog 62 #[.pointer (some ⟨tb, 0, none⟩), .int .i64 m] w fun r w' => r = .returned (.bool (inB m s.E.length)) ∧ Mch w0 w' (Gr X w w') x a n S most { s with E := qce s.E m } ∧ Turn X w w' := by
 have hl := h.wf.el9
 by_cases hm : 0 ≤ m ∧ m < (s.E.length : Int)
 ·obtain ⟨k, rfl⟩ := Int.eq_ofNat_of_zero_le hm.1
  refine (TB.drop_yes h.buf k (by omega) (by omega)).mono ?_
  rintro r w' ⟨rfl, hB, hT⟩
  have e : qce s.E ((k : Nat) : Int) = s.E.eraseIdx k := by unfold qce; rw [if_neg (by omega)]; rfl
  rw [show inB ((k : Nat) : Int) _ = true from decide_eq_true hm, e]
  exact ⟨rfl, h.filled hT (h.buf.xp hT.size hB) (e ▸ h.wf.subE (drop_sub s.E (k : Nat)))⟩
 ·refine (TB.drop_no h.buf m (by omega) (by omega)).mono ?_
  rintro r w' ⟨rfl, rfl⟩
  have e : qce s.E m = s.E := by
   unfold qce
   split
   ·rfl
   ·exact List.eraseIdx_of_length_le (by omega)
  rw [show inB m _ = false from decide_eq_false hm, e]
  exact ⟨rfl, Mch.gr0 ⟨XM, XB, XT, tb, tr, pv, h⟩ (Below.refl _ _)⟩
theorem MchV.lose (h : MchV w0 w X XM XB XT x a tb tr n S most s pv) (m : Int) :
  Calls Tryz.prog 63 #[.pointer (some ⟨tr, 0, none⟩), .int .i64 m] w fun r w' => r = .returned (.bool (inB m s.K.length)) ∧ Mch w0 w' (Gr X w w') x a n S most { s with K := qce s.K m } ∧ Turn X w w' := by
 have hl := h.wf.el9
 by_cases hm : 0 ≤ m ∧ m < (s.K.length : Int)
 ·obtain ⟨k, rfl⟩ := Int.eq_ofNat_of_zero_le hm.1
  refine (TR.drop_yes h.trl k (by omega) (by omega)).mono ?_
  rintro r w' ⟨rfl, hB, hT⟩
  have e : qce s.K ((k : Nat) : Int) = s.K.eraseIdx k := by unfold qce; rw [if_neg (by omega)]; rfl
  rw [show inB ((k : Nat) : Int) _ = true from decide_eq_true hm, e]
  exact ⟨rfl, h.marked hT (h.trl.xp hT.size hB) (e ▸ h.wf.subK (drop_sub s.K (k : Nat)))⟩
 ·refine (TR.drop_no h.trl m (by omega) (by omega)).mono ?_
  rintro r w' ⟨rfl, rfl⟩
  have e : qce s.K m = s.K := by
   unfold qce
   split
   ·rfl
   ·exact List.eraseIdx_of_length_le (by omega)
  rw [show inB m _ = false from decide_eq_false hm, e]
  exact ⟨rfl, Mch.gr0 ⟨XM, XB, XT, tb, tr, pv, h⟩ (Below.refl _ _)⟩
theorem memory_c (h : Mch w0 w X x a n S most s) :
  Calls Tryz.prog 10 #[.pointer (some ⟨x, 0, none⟩)] w fun r w' => r = .returned (.pointer (some ⟨a, 0, none⟩)) ∧ w = w' := by
 obtain ⟨XM, XB, XT, tb, tr, pv, h⟩ := h
 obtain ⟨c0, -⟩ := row5 h.row
 clear h
 go_enter Tryz.func10, Tryz.ntmps10
 go_wp2
 go_ret
 exact ⟨rfl, rfl⟩
theorem evict_c (h : Mch w0 w X x a n S most s) (m : Int) :
  Calls Tryz.prog 21 #[.pointer (some ⟨x, 0, none⟩), .int .i64 m] w fun r w' => r = .returned (.bool (inB m s.E.length)) ∧ Mch w0 w' (Gr X w w') x a n S most { s with E := qce s.E m } ∧ Turn X w w' := by
 obtain ⟨XM, XB, XT, tb, tr, pv, h⟩ := h
 obtain ⟨-, c1, -⟩ := row5 h.row
 have hC := h.drop m
 clear h
 go_enter Tryz.func21, Tryz.ntmps21
 go_wp2_with fail
 refine hC.mono ?_
 rintro e w1 ⟨rfl, hM⟩
 clear hC c1
 go_wp2
 go_ret
 exact ⟨rfl, hM⟩
theorem lose_c (h : Mch w0 w X x a n S most s) (m : Int) :
  Calls Tryz.prog 22 #[.pointer (some ⟨x, 0, none⟩), .int .i64 m] w fun r w' => r = .returned (.bool (inB m s.K.length)) ∧ Mch w0 w' (Gr X w w') x a n S most { s with K := qce s.K m } ∧ Turn X w w' := by
 obtain ⟨XM, XB, XT, tb, tr, pv, h⟩ := h
 obtain ⟨-, -, c2, -⟩ := row5 h.row
 have hC := h.lose m
 clear h
 go_enter Tryz.func22, Tryz.ntmps22
 go_wp2_with fail
 refine hC.mono ?_
 rintro e w1 ⟨rfl, hM⟩
 clear hC c2
 go_wp2
 go_ret
 exact ⟨rfl, hM⟩
def flVa (s : St) (i : Int) (y : Nat) : St := { s with E := TB.qar (fun e => TB.mB e i y) s.E, K := TR.qar (fun e => TR.mB e i y) s.K }
def flAs (s : St) (i : Int) : St := { s with E := TB.qar (fun e => decide (e.aid = i)) s.E, K := TR.qar (fun e => decide (e.aid = i)) s.K }
def flAll (s : St) : St := { s with E := [], K := [] }
theorem zP29x01 {Z : Prop} (z : Z := by
 clear h1 hl
 go_wp2_with fail
 refine HC.out.mono ?_
 rintro e w2 ⟨rfl, hB, hT⟩
 have h2 := H.out.marked hT (H.out.trl.xp hT.size hB) (H.out.wf.subK (keepR_sub _ _))
 clear HC c2 hB hT H
 go_wp2
 go_end0
 exact ⟨rfl, H0.out.gr2 (Below.refl _ _) HT1.out (Below.refl _ _) h2.1 h2.2⟩) : Z := z
theorem qev (h : Mch w0 w X x a n S most s) (i : Int) (y : Nat) (hy : y < 18446744073709551616) :
  Calls Tryz.prog 13 #[.pointer (some ⟨x, 0, none⟩), .int .i64 i, .int .u64 y] w fun r w' => r = .returned (.tuple #[]) ∧ Mch w0 w' (Gr X w w') x a n S most (flVa s i y) ∧ Turn X w w' := by
 have H0 := Hid.mk h
 obtain ⟨XM, XB, XT, tb, tr, pv, h⟩ := h
 obtain ⟨-, c1, -⟩ := row5 h.row
 have hl := h.wf.el9
 have HC := Hid.mk (TB.qev h.buf (by omega) i y hy)
 have H := Hid.mk h
 clear h hl
 go_enter Tryz.func13, Tryz.ntmps13
 go_wp2_with fail
 refine HC.out.mono ?_
 rintro e w1 ⟨rfl, hB, hT⟩
 obtain ⟨hM1, hT1⟩ := H.out.filled hT (H.out.buf.xp hT.size hB) (H.out.wf.subE (keepB_sub _ _))
 have HT1 := Hid.mk hT1
 have HM1 := Hid.mk hM1
 clear HC c1 hB hT H hT1
 obtain ⟨XM1, XB1, XT1, tb1, tr1, pv1, h1⟩ := hM1
 obtain ⟨-, -, c2, -⟩ := row5 h1.row
 have hl := h1.wf.el9
 have HC := Hid.mk (TR.qev h1.trl (by omega) i y hy)
 have H := Hid.mk h1
 exact zP29x01
theorem qcy (h : Mch w0 w X x a n S most s) (i : Int) :
  Calls Tryz.prog 24 #[.pointer (some ⟨x, 0, none⟩), .int .i64 i] w fun r w' => r = .returned (.tuple #[]) ∧ Mch w0 w' (Gr X w w') x a n S most (flAs s i) ∧ Turn X w w' := by
 have H0 := Hid.mk h
 obtain ⟨XM, XB, XT, tb, tr, pv, h⟩ := h
 obtain ⟨-, c1, -⟩ := row5 h.row
 have hl := h.wf.el9
 have HC := Hid.mk (TB.qcy h.buf (by omega) i)
 have H := Hid.mk h
 clear h hl
 go_enter Tryz.func24, Tryz.ntmps24
 go_wp2_with fail
 refine HC.out.mono ?_
 rintro e w1 ⟨rfl, hB, hT⟩
 obtain ⟨hM1, hT1⟩ := H.out.filled hT (H.out.buf.xp hT.size hB) (H.out.wf.subE (keepB_sub _ _))
 have HT1 := Hid.mk hT1
 have HM1 := Hid.mk hM1
 clear HC c1 hB hT H hT1
 obtain ⟨XM1, XB1, XT1, tb1, tr1, pv1, h1⟩ := hM1
 obtain ⟨-, -, c2, -⟩ := row5 h1.row
 have hl := h1.wf.el9
 have HC := Hid.mk (TR.qcy h1.trl (by omega) i)
 have H := Hid.mk h1
 exact zP29x01
theorem qet (h : Mch w0 w X x a n S most s) :
  Calls Tryz.prog 25 #[.pointer (some ⟨x, 0, none⟩)] w fun r w' => r = .returned (.tuple #[]) ∧ Mch w0 w' (Gr X w w') x a n S most (flAll s) ∧ Turn X w w' := by
 have H0 := Hid.mk h
 obtain ⟨XM, XB, XT, tb, tr, pv, h⟩ := h
 obtain ⟨-, c1, -⟩ := row5 h.row
 have hl := h.wf.el9
 have HC := Hid.mk (TB.qet h.buf (by omega))
 have H := Hid.mk h
 clear h hl
 go_enter Tryz.func25, Tryz.ntmps25
 go_wp2_with fail
 refine HC.out.mono ?_
 rintro e w1 ⟨rfl, hB, hT⟩
 obtain ⟨hM1, hT1⟩ := H.out.filled hT (H.out.buf.xp hT.size hB) (H.out.wf.subE (List.nil_sublist _))
 have HT1 := Hid.mk hT1
 have HM1 := Hid.mk hM1
 clear HC c1 hB hT H hT1
 obtain ⟨XM1, XB1, XT1, tb1, tr1, pv1, h1⟩ := hM1
 obtain ⟨-, -, c2, -⟩ := row5 h1.row
 have hl := h1.wf.el9
 have HC := Hid.mk (TR.qet h1.trl (by omega))
 have H := Hid.mk h1
 clear h1 hl
 go_wp2_with fail
 refine HC.out.mono ?_
 rintro e w2 ⟨rfl, hB, hT⟩
 have h2 := H.out.marked hT (H.out.trl.xp hT.size hB) (H.out.wf.subK (List.nil_sublist _))
 clear HC c2 hB hT H
 go_wp2
 go_end0
 exact ⟨rfl, H0.out.gr2 (Below.refl _ _) HT1.out (Below.refl _ _) h2.1 h2.2⟩
theorem entries_c (h : Mch w0 w X x a n S most s) :
  Calls Tryz.prog 30 #[.pointer (some ⟨x, 0, none⟩)] w fun r w' => ∃ ad cap, r = .returned (.slice ad s.E.length cap) ∧ TB.RdA w' ad s.E ∧ (∀ b, ad = some b → w.heap.size ≤ b.block) ∧ Below w.heap.size w w' := by
 obtain ⟨XM, XB, XT, tb, tr, pv, h⟩ := h
 obtain ⟨-, c1, -⟩ := row5 h.row
 have hl := h.wf.el9
 have hC := TB.list_c h.buf (by omega)
 clear h
 go_enter Tryz.func30, Tryz.ntmps30
 go_wp2_with fail
 refine hC.mono ?_
 rintro e w1 ⟨ad, cap, rfl, hM⟩
 clear hC c1
 go_wp2
 go_ret
 exact ⟨ad, cap, rfl, hM⟩
theorem marks_c (h : Mch w0 w X x a n S most s) :
  Calls Tryz.prog 31 #[.pointer (some ⟨x, 0, none⟩)] w fun r w' => ∃ ad cap, r = .returned (.slice ad s.K.length cap) ∧ TR.RdA w' ad s.K ∧ (∀ b, ad = some b → w.heap.size ≤ b.block) ∧ Below w.heap.size w w' := by
 obtain ⟨XM, XB, XT, tb, tr, pv, h⟩ := h
 obtain ⟨-, -, c2, -⟩ := row5 h.row
 have hl := h.wf.el9
 have hC := TR.list_c h.trl (by omega)
 clear h
 go_enter Tryz.func31, Tryz.ntmps31
 go_wp2_with fail
 refine hC.mono ?_
 rintro e w1 ⟨ad, cap, rfl, hM⟩
 clear hC c2
 go_wp2
 go_ret
 exact ⟨ad, cap, rfl, hM⟩
end
def rgB (y : Nat) : Bool := decide (y % 4096 = 0 ∧ y < 72057594037927936)
theorem rgB_rest {y : Nat} (hy : y < 18446744073709551616) : restR y = 0 ↔ rgB y = true := by
 rw [restR_mod y hy]
 unfold rgB
 rw [decide_eq_true_eq]
 omega
theorem rgB_out {y : Nat} (h : rgB y = true) : outV y = y % 281474976710656 ∧ getV 48 8 y = y / 281474976710656 := by
 unfold rgB at h
 rw [decide_eq_true_eq] at h
 have e1 : getV 48 8 y = y / 281474976710656 % 256 := getV_mod (l := 48) (n := 8) (by decide) y
 rw [outV_mod, e1]
 omega
def setRg (s : St) (y : Nat) : St := if rgB y = true then { s with rg := some (y % 281474976710656, y / 281474976710656) } else s
def setN (y : Nat) : Int := if rgB y = true then 0 else 10
theorem tA_none (W : World) : (Instr.typeAssert .nilIface 20 106 true).run Tryz.prog W = .ok (.tuple #[.agg #[.int .u64 0, .int .i64 0], .bool false]) W := by kernel_rfl
theorem tA_some (W : World) (v : Value) : (Instr.typeAssert (.iface 106 v) 20 106 true).run Tryz.prog W = .ok (.tuple #[v, .bool true]) W := by kernel_rfl
theorem info_any : (Tryz.prog.info? 20).map (·.size) = some 1 := by kernel_rfl
theorem Wf.reg {most : Int} {s : St} (h : Wf most s) (rg' : Option (Nat × Nat)) (hr : ∀ r i, rg' = some (r, i) → r < 281474976710656 ∧ r % 4096 = 0 ∧ i ≤ 255) : Wf most { s with rg := rg' } :=
 ⟨h.m1, h.m64, h.el, h.kl, h.er, h.eo, h.kr, hr, h.pl, h.pv, h.nd⟩
section
variable {w0 w : World} {X : Nat → Prop} {x a n S : Nat} {most : Int} {s : St}
theorem off_c (h : Mch w0 w X x a n S most s) :
  Calls Tryz.prog 26 #[.pointer (some ⟨x, 0, none⟩)] w fun r w' => r = .returned (.tuple #[]) ∧ Mch w0 w' (Gr X w w') x a n S most { s with rg := none } ∧ Turn X w w' := by
 obtain ⟨XM, XB, XT, tb, tr, pv, h⟩ := h
 have H := Hid.mk h
 obtain ⟨-, -, -, c3, -⟩ := row5 h.row
 have hrow := h.row
 clear h
 go_enter Tryz.func26, Tryz.ntmps26
 go_wp2_with
  first
  | (refine qad rfl 20 _ _ rfl rfl x 3 .nilIface #[.nilIface] rfl rfl rfl 110 _ hrow (show 3 + 1 ≤ 5 by decide) info_any (by simp [Value.oneCell']) #[.pointer (some ⟨a, 0, none⟩), .pointer (some ⟨tb, 0, none⟩), .pointer (some ⟨tr, 0, none⟩), .nilIface, pv] rfl ?_
     intro wq hq hT)
  | fail
 go_end0
 exact ⟨rfl, H.out.rowed (Below.refl _ _) hT hq (H.out.pln.kept hT.size (fun g hg hlt => ⟨⟨Or.inl hg.1, hg.2⟩, hT.block g hlt hg.2.2.2.2⟩)) (H.out.wf.reg none (fun _ _ c => by cases c))⟩
theorem set_c (h : Mch w0 w X x a n S most s) (y : Nat) (hy : y < 18446744073709551616) :
  Calls Tryz.prog 8 #[.pointer (some ⟨x, 0, none⟩), .int .u64 y] w fun r w' => r = .returned (.int .i64 (setN y)) ∧ Mch w0 w' (Gr X w w') x a n S most (setRg s y) ∧ Turn X w w' := by
 have H0 := Hid.mk h
 obtain ⟨XM, XB, XT, tb, tr, pv, h⟩ := h
 have H := Hid.mk h
 have hF := h.fld
 clear h
 cases hr : rgB y
 ·have hR : restR y ≠ 0 := fun c => by rw [(rgB_rest hy).1 c] at hr; cases hr
  have HC := Hid.mk (readBase_bad y hy hR w hF.t.d hF.a)
  have e1 : setN y = 10 := by unfold setN; rw [hr]; rfl
  have e2 : setRg s y = s := by unfold setRg; rw [hr]; rfl
  rw [e1, e2]
  clear hF hR
  go_enter Tryz.func8, Tryz.ntmps8
  go_wp2_with fail
  refine HC.out.mono ?_
  rintro e w1 ⟨rfl, hb⟩
  clear HC
  go_wp2
  go_ret
  exact ⟨rfl, H0.out.gr0 hb⟩
 ·have hR : restR y = 0 := (rgB_rest hy).2 hr
  have HC := Hid.mk (readBase_ok y hy hR w hF.t.d hF.a)
  obtain ⟨o1, o2⟩ := rgB_out hr
  rw [o1, o2] at HC
  have e1 : setN y = 0 := by unfold setN; rw [hr]; rfl
  have e2 : setRg s y = { s with rg := some (y % 281474976710656, y / 281474976710656) } := by unfold setRg; rw [hr]; rfl
  have HW : Hid (Wf most { s with rg := some (y % 281474976710656, y / 281474976710656) }) := H.out.wf.reg _ (fun r i c => by
   unfold rgB at hr
   rw [decide_eq_true_eq] at hr
   simp only [Option.some.injEq, Prod.mk.injEq] at c
   omega)
  rw [e1, e2]
  clear hF hR o1 o2 hr hy
  generalize y % 281474976710656 = R at *
  generalize y / 281474976710656 = I at *
  go_enter Tryz.func8, Tryz.ntmps8
  go_wp2_with fail
  refine HC.out.mono ?_
  rintro e w1 ⟨rfl, hb⟩
  have hrow := qaa hb H.out.row
  obtain ⟨-, -, -, c3, -⟩ := row5 hrow
  clear HC
  go_wp2_with
   first
   | (refine qad rfl 20 _ _ rfl rfl x 3 (.iface 106 (.agg #[.int .u64 R, .int .i64 I])) #[.iface 106 (.agg #[.int .u64 R, .int .i64 I])] rfl rfl rfl 110 _ hrow (show 3 + 1 ≤ 5 by decide) info_any (by simp [Value.oneCell']) #[.pointer (some ⟨a, 0, none⟩), .pointer (some ⟨tb, 0, none⟩), .pointer (some ⟨tr, 0, none⟩), .iface 106 (.agg #[.int .u64 R, .int .i64 I]), pv] rfl ?_
      intro wq hq hT)
   | fail
  go_ret
  exact ⟨rfl, H.out.rowed hb hT hq (H.out.pln.kept (Nat.le_trans hb.size hT.size) (fun g hg hlt => ⟨⟨Or.inl hg.1, hg.2⟩, (hT.block g (Nat.lt_of_lt_of_le hlt hb.size) hg.2.2.2.2).trans (hb.block g hlt)⟩)) HW.out⟩
def regW : Option (Nat × Nat) → Nat
 | none => 0
 | some (r, i) => r + i * 281474976710656
theorem register_c (h : Mch w0 w X x a n S most s) :
  Calls Tryz.prog 35 #[.pointer (some ⟨x, 0, none⟩)] w fun r w' => r = .returned (.tuple #[.int .u64 (regW s.rg : Nat), .bool s.rg.isSome]) ∧ Below w.heap.size w w' := by
 obtain ⟨XM, XB, XT, tb, tr, pv, h⟩ := h
 have hF := h.fld
 have hrr := h.wf.rr
 obtain ⟨-, -, -, c3, -⟩ := row5 h.row
 clear h
 cases hg : s.rg with
 | none =>
  rw [hg] at c3
  change w.cell? _ = some .nilIface at c3
  show Calls _ _ _ _ (fun r w' => r = .returned (.tuple #[.int .u64 0, .bool false]) ∧ Below w.heap.size w w')
  have t0 := tA_none
  clear hrr hF
  go_enter Tryz.func35, Tryz.ntmps35
  go_wp2
  go_ret2
  exact ⟨rfl, qac _ _⟩
 | some q =>
  obtain ⟨R, I⟩ := q
  obtain ⟨r1, r2, r3⟩ := hrr R I hg
  rw [hg] at c3
  change w.cell? _ = some (.iface 106 (.agg #[.int .u64 R, .int .i64 I])) at c3
  show Calls _ _ _ _ (fun r w' => r = .returned (.tuple #[.int .u64 ((R + I * 281474976710656 : Nat) : Int), .bool true]) ∧ Below w.heap.size w w')
  have t1 := fun W => tA_some W (.agg #[.int .u64 R, .int .i64 I])
  have hAl : qaq R 12 = true := (qbl R (k := 12) (by omega) (by omega)).trans (decide_eq_true r2)
  have hOu : qct R 12 = true := (isOut_mod R 12 (by omega) (by omega) (by omega)).trans (decide_eq_true ⟨r1, r2⟩)
  have HC := Hid.mk (fun W (hb : Below w.heap.size w W) => base_ok R I (by omega) hAl hOu r3 W (hF.t.d.later hb) (hF.a.later hb))
  clear hrr hF r1 r2 r3 hg hAl hOu
  generalize R + I * 281474976710656 = O at *
  go_enter Tryz.func35, Tryz.ntmps35
  go_wp2_with fail
  refine (HC.out _ ?_).mono ?_
  ·exact qac _ _
  rintro e w1 ⟨rfl, hb⟩
  go_wp2
  go_ret2
  exact ⟨rfl, qab (qac _ _) hb⟩
end
theorem new_bad {w : World} {most : Int} (h : most < 1 ∨ 64 < most) (a : Nat) :
  Calls Tryz.prog 16 #[.pointer (some ⟨a, 0, none⟩), .int .i64 most] w fun r w' => r = .returned (.tuple #[.pointer none, .int .i64 12]) ∧ w = w' := by
 have hC := TB.new_bad most h w
 clear h
 go_enter Tryz.func16, Tryz.ntmps16
 go_wp2_with fail
 refine hC.mono ?_
 rintro e w1 ⟨rfl, rfl⟩
 clear hC
 go_wp2
 go_ret2
 exact ⟨rfl, rfl⟩
theorem new_ok {w0 w : World} {XM : Nat → Prop} {a S n : Nat} {f : Nat → Nat} {most : Int} (hM : qcw w XM a S n f) (hlo : ∀ i, XM i → w0.heap.size ≤ i) (hB : Below w0.heap.size w0 w) (hF : FA w0) (m1 : 1 ≤ most) (m64 : most ≤ 64) :
  Calls Tryz.prog 16 #[.pointer (some ⟨a, 0, none⟩), .int .i64 most] w fun r w' => ∃ x, r = .returned (.tuple #[.pointer (some ⟨x, 0, none⟩), .int .i64 0]) ∧ Mch w0 w' (Gr XM w w') x a n S most ⟨f, [], [], none, []⟩ ∧ Below w.heap.size w w' := by
 have hC := fun W => TB.new_ok most m1 m64 W
 have hD := fun W => TR.new_ok most m1 m64 W
 have HC := Hid.mk hC
 have HD := Hid.mk hD
 have HM := Hid.mk (And.intro m1 m64)
 clear hC hD m1 m64
 go_enter Tryz.func16, Tryz.ntmps16
 go_wp2_with fail
 refine (HC.out _).mono ?_
 rintro e w1 ⟨rfl, hb1, hB1⟩
 have HB1 := Hid.mk (And.intro hb1 hB1)
 clear HC hb1 hB1
 go_wp2_with fail
 refine (HD.out _).mono ?_
 rintro e w2 ⟨rfl, hb2, hB2⟩
 have HB2 := Hid.mk (And.intro hb2 hB2)
 clear HD hb2 hB2
 go_wp2
 go_ret2
 obtain ⟨hb1, hB1⟩ := HB1.out
 obtain ⟨hb2, hB2⟩ := HB2.out
 have s1 := tbuf_lt hB1 _ rfl
 have s2 := TR.buf_lt hB2 _ rfl
 have e1 := hb1.size
 have e2 := hb2.size
 have e0 := hB.size
 have hb3 : Below w2.heap.size w2 (w2.alloc (.cells #[.pointer (some ⟨a, 0, none⟩), .pointer (some ⟨w.heap.size, 0, none⟩), .pointer (some ⟨w1.heap.size, 0, none⟩), .nilIface, .slice none 0 0] 110)) := qac _ _
 have hbA := qab (qab hb1 hb2) hb3
 have e3 : (w2.alloc (.cells #[.pointer (some ⟨a, 0, none⟩), .pointer (some ⟨w.heap.size, 0, none⟩), .pointer (some ⟨w1.heap.size, 0, none⟩), .nilIface, .slice none 0 0] 110)).heap.size = w2.heap.size + 1 := by simp
 refine ⟨_, rfl, ⟨XM, fun i => i = w.heap.size, fun i => i = w1.heap.size, w.heap.size, w1.heap.size, .slice none 0 0, heap_alloc_new w2 _, hM.below hbA, hB1.later (qab hb2 hb3), hB2.later hb3, ⟨none, 0, rfl, fun i hi => absurd hi (Nat.not_lt_zero _)⟩, ?_, ?_, ?_, ?_, ?_, ?_, ?_, ?_, ?_, ?_, ?_, ?_, ?_, hF, ?_⟩, hbA⟩
 ·intro i hi c
  have := hM.lt i hi; omega
 ·intro i hi c
  have := hM.lt i hi; omega
 ·intro i hi c
  omega
 ·intro hi
  have := hM.lt _ hi; omega
 ·intro c; omega
 ·intro c; omega
 ·exact fun i hi => Or.inl hi
 ·rintro i rfl; exact Or.inr ⟨Nat.le_refl _, by omega⟩
 ·rintro i rfl; exact Or.inr ⟨e1, by omega⟩
 ·exact Or.inr ⟨by omega, by omega⟩
 ·intro i hi
  rcases hi with hi | hi
  ·have := hM.lt _ hi; omega
  ·exact hi.2
 ·intro i hi
  rcases hi with hi | hi
  ·exact hlo i hi
  ·omega
 ·exact qab hB hbA
 ·exact ⟨HM.out.1, HM.out.2, by have := HM.out.1; show (0 : Int) ≤ most; omega, by have := HM.out.1; show (0 : Int) ≤ most; omega, (fun _ h => by cases h), (fun _ h => by cases h), (fun _ h => by cases h), (fun _ _ h => by cases h), Nat.zero_le _, (fun _ h => by cases h), List.nodup_nil⟩
end Go.Proofs.YtfdbdeckohaneaaGreatDoor.MM
