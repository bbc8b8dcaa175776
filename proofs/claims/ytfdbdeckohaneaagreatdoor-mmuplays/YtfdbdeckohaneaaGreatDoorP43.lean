/- P43 -/
import Derived.Test.YtfdbdeckohaneaaGreatDoorP17
import Derived.Test.YtfdbdeckohaneaaGreatDoorP42
set_option maxHeartbeats 16000000
set_option maxRecDepth 100000
namespace Go.Proofs.YtfdbdeckohaneaaGreatDoor
open Go.RowKit Go.Maps
theorem refSize_any (l : Int) (hl : isLv l = true) (w : World) :
  Calls Tryz.prog 111 #[.int .i64 l] w fun e w' => e = .returned (.int .u64 ((2 ^ lowK l : Nat) : Int)) ∧ Below w.heap.size w w' := by
 have hC := fun w1 => qfe l hl w1
 have hk := qcg hl
 have hk2 : lowK l ≤ 39 := hk.2.2.1
 generalize lowK l = N at *
 clear hk
 have hpow : ∀ i, i ≤ 39 → ((2 ^ i : Nat) : Int) ≤ 549755813888 := fun i hi => by
  have : 2 ^ i ≤ 2 ^ 39 := Nat.pow_le_pow_right (by decide) hi
  exact Int.ofNat_le.2 this
 have HP := Hid.mk hpow
 clear hpow
 go_enter Tryz.func111, Tryz.ntmps111
 go_wp2
 go_loopw [3, 4] (fun s3 s4 wr => ∃ i : Nat, i ≤ N ∧ s4 = .int .i64 i ∧ s3 = .int .u64 ((2 ^ i : Nat) : Int) ∧ Below w.heap.size w wr) (fun _ s4 _ => N - (intOf s4).toNat)
 case atStart => exact ⟨0, by omega, rfl, rfl, Below.refl _ _⟩
 case round =>
  obtain ⟨i, hi, rfl, rfl, hb⟩ := hrel
  go_wp2_with fail
  refine (hC _).mono ?_
  rintro e w1 ⟨rfl, hb1⟩
  by_cases hlt : i < N
  ·have hlt2 : (i : Int) < N := by omega
   have h1 := HP.out (i + 1) (by omega)
   have HE : Hid (((2 ^ (i + 1) : Nat) : Int) = ((2 ^ i : Nat) : Int) + ((2 ^ i : Nat) : Int)) := by show _ = _; rw [Nat.pow_succ]; omega
   have h2 : ((2 ^ i : Nat) : Int) + ((2 ^ i : Nat) : Int) < 18446744073709551616 := by rw [← HE.out]; omega
   have h3 : (0 : Int) ≤ ((2 ^ i : Nat) : Int) := Int.natCast_nonneg _
   clear h1
   generalize ((2 ^ i : Nat) : Int) = q at *
   go_wp2
   exact ⟨⟨i + 1, by omega, by go_num, by rw [HE.out], qab hb hb1⟩, by simp [intOf]; omega⟩
  ·obtain rfl : i = N := by omega
   go_wp2
   go_ret
   exact ⟨rfl, qab hb hb1⟩
theorem info_s6 : (Tryz.prog.info? 192).map (fun i => (i.zero, i.size, i.bytes)) = some (some (.agg #[.int .u64 0, .int .u64 0]), 2, 16) := by kernel_rfl
def Own6 (w : World) (base : Nat) (v : Value) (L : WL) : Prop := w.ownsRow base 192 2 v L.length (pcs L)
theorem Own6.alloc {w : World} {base : Nat} {v : Value} {L : WL} (h : Own6 w base v L) (o : Obj) : Own6 (w.alloc o) base v L := World.ownsRow.alloc h o
theorem Own6.lt {w : World} {base : Nat} {v : Value} {L : WL} (h : Own6 w base v L) : ∀ g, v.ownBlock = some g → base ≤ g ∧ g < w.heap.size := World.ownsRow.lt h
theorem Own6.one {w : World} {base : Nat} {v : Value} {L : WL} (h : Own6 w base v L) : v.oneCell' = true := by
 rcases h.2 with ⟨rfl, _⟩ | ⟨g, cap, cur, rfl, _⟩ <;> rfl
theorem Own6.kept {w w' : World} {base : Nat} {v : Value} {L : WL} (h : Own6 w base v L) (hk : ∀ g, base ≤ g → g < w.heap.size → w'.heap[g]? = w.heap[g]?) : Own6 w' base v L := by
 refine ⟨h.1, ?_⟩
 rcases h.2 with q | ⟨g, cap, cur, hv, hbase, hb, rest⟩
 ·exact Or.inl q
 ·exact Or.inr ⟨g, cap, cur, hv, hbase, (hk g hbase (qag hb)).trans hb, rest⟩
theorem Own6.later {w w' : World} {base : Nat} {v : Value} {L : WL} (h : Own6 w base v L) (hb : Below w.heap.size w w') : Own6 w' base v L := h.kept (fun g _ hl => hb.block g hl)
theorem Own6.turn {w w' : World} {base b : Nat} {v : Value} {L : WL} (h : Own6 w base v L) (ht : Turn (fun i => i = b) w w') (hb : b < base) : Own6 w' base v L := h.kept (fun g h1 hl => ht.block g hl (fun c => by omega))
theorem wpList_app6 (w : World) {ops : Array Oper} {rest : List Oper} {o : Oper} {a : Act} {Q : Exit → Act → World → Prop} (hg : o.guard = none) (s x : Operand) (hop : o.op = .call { callee := .builtin .append, args := #[s, x], argTypes := #[136, 136] })
  (base : Nat) (v : Value) (L : WL) (hs : a.eval s = v) (hown : Own6 w base v L) (y z bb : Nat) (hx : a.eval x = .slice (some ⟨bb, 0, none⟩) 1 1) (hc : w.heap[bb]? = some (.cells #[.int .u64 y, .int .u64 z] 192)) (hlen : L.length < 100000000) (hbase : base ≤ w.heap.size)
  (h : ∀ g cap w', Own6 w' base (.slice (some ⟨g, 0, none⟩) (L.length + 1) cap) (L ++ [(y, z)]) → w.grownBy w' v.ownBlock → wpList Tryz.prog ops Q rest (a.put o.dst (.slice (some ⟨g, 0, none⟩) (L.length + 1) cap)) w') :
  wpList Tryz.prog ops Q (o :: rest) a w := by
 obtain ⟨i0, hi, hz0, hz1, hz2⟩ := info_parts info_s6
 refine wpList_append_lies w hg s x 136 hop base 192 i0 _ 2 16 Tryz.underlying136 hi hz0 hz1 hz2 rfl (by decide) v L.length (pcs L) hs hown ⟨bb, 0, none⟩ 1 1 [.int .u64 y, .int .u64 z] hx rfl (World.news_of_block (cs := #[.int .u64 y, .int .u64 z]) (t := 192) (fr := (0, 0)) hc) (by simp [Value.oneCell']) (by decide) (by unfold maxLen; omega) (by omega) hbase _ rfl ?_
 intro g cap w' hown' hgrow _ _
 refine h g cap w' ?_ hgrow
 show w'.ownsRow _ _ _ _ (L ++ [(y, z)]).length (pcs (L ++ [(y, z)]))
 rw [pcs_append, List.length_append]
 exact hown'
theorem qbz : (Tryz.prog.info? 138).map (·.size) = some 11 := by kernel_rfl
theorem info_F : (Tryz.prog.info? 65).map (·.size) = some 2 := by kernel_rfl
theorem info_D : (Tryz.prog.info? 92).map (·.size) = some 7 := by kernel_rfl
theorem info_sl6 : (Tryz.prog.info? 136).map (·.size) = some 1 := by kernel_rfl
def l11 (k o' : List Value) (v : Value) : List Value := k ++ (o' ++ [v])
def qbq (fk fl : Int) (v : Value) : Array Value := #[.int .i64 0, .int .i64 0, .int .u64 0, .bool false, .bool false, .bool false, .bool false, .int .i64 0, .int .i64 fk, .int .i64 fl, v]
theorem zero11_one (fk fl : Int) {v : Value} (h : v.oneCell' = true) : (qbq fk fl v).all (·.oneCell') = true := all_oneCell_toArray (fun u hu => by
 simp only [List.mem_cons, List.not_mem_nil, or_false] at hu
 rcases hu with rfl | rfl | rfl | rfl | rfl | rfl | rfl | rfl | rfl | rfl | rfl
 all_goals first | rfl | exact h)
theorem leaf11_one (l kk : Int) (oo : Nat) (eU eR eX eS : Bool) (eA : Int) {v : Value} (h : v.oneCell' = true) : (#[.int .i64 l, .int .i64 kk, .int .u64 oo, .bool eU, .bool eR, .bool eX, .bool eS, .int .i64 eA, .int .i64 0, .int .i64 0, v] : Array Value).all (·.oneCell') = true := all_oneCell_toArray (fun u hu => by
 simp only [List.mem_cons, List.not_mem_nil, or_false] at hu
 rcases hu with rfl | rfl | rfl | rfl | rfl | rfl | rfl | rfl | rfl | rfl | rfl
 all_goals first | rfl | exact h)
theorem grown_block {w w' : World} {base j : Nat} {v : Value} {L : WL} {o ob : Obj} (hown : Own6 w base v L) (hg : (w.alloc o).grownBy w' v.ownBlock) (h : w.heap[j]? = some ob) (hj : j < base) : w'.heap[j]? = some ob := by
 have h2 := qaa (qac w o) h
 exact (hg.block j (qag h2) (fun c => by have := (hown.lt j c.symm).1; omega)).trans h2
theorem grown_below {w0 w w' : World} {base : Nat} {v : Value} {L : WL} {o : Obj} (hown : Own6 w base v L) (hg : (w.alloc o).grownBy w' v.ownBlock) (hB : Below w0.heap.size w0 w) (hb : w0.heap.size ≤ base) : Below w0.heap.size w0 w' := by
 have hs := hB.size
 exact (hB.alloc hs o).grown hg (by simp; omega) (fun q hq => Nat.le_trans hb (hown.lt q hq).1)
def resL (r : Int × Int × Nat) (v : Value) : List Value := l11 (qeg r) (qcj r) v
structure GRel (w wr : World) (S : Nat) (vm : Value) (f : Nat → Nat) (va : Nat) (r0 : WL × Int × Int × Nat) (k tb : Nat) (L : WL) (sv : Value) : Prop where
 k3 : k ≤ 3
 tm : tb % 4096 = 0
 tl : tb < 18446744073709551616
 ll : L.length + k ≤ 3
 h4 : wr.heap[w.heap.size]? = some (.cells #[.int .u64 S, vm] 29 (0, 0))
 h8 : wr.heap[w.heap.size + 1]? = some (.cells (qbq 0 0 (.slice none 0 0)) 138 (0, 0))
 h9 : wr.heap[w.heap.size + 1 + 1]? = some (.cells (qbq 1 0 sv) 138 (0, 0))
 own : Own6 wr (w.heap.size + 3) sv L
 bel : Below w.heap.size w wr
 e1 : L ++ (wk S f va (k + 1) tb).1 = r0.1
 e2 : (wk S f va (k + 1) tb).2 = r0.2
theorem heap_alloc3_0 (w : World) (a b c : Obj) : (((w.alloc a).alloc b).alloc c).heap[w.heap.size]? = some a := qaa (qac _ _) (heap_alloc2_old _ _ _)
theorem qff (w : World) (a b c : Obj) : (((w.alloc a).alloc b).alloc c).heap[w.heap.size + 1]? = some b := qaa (qac _ _) (heap_alloc2_new _ _ _)
theorem heap_alloc3_2 (w : World) (a b c : Obj) : (((w.alloc a).alloc b).alloc c).heap[w.heap.size + 1 + 1]? = some c := by
 have h := heap_alloc_new ((w.alloc a).alloc b) c
 have e : ((w.alloc a).alloc b).heap.size = w.heap.size + 1 + 1 := by simp
 rw [e] at h; exact h
theorem below3 (w : World) (a b c : Obj) : Below w.heap.size w (((w.alloc a).alloc b).alloc c) := qab (qbx _ _ _) (qac _ _)
theorem zP43x03 {Z : Prop} (z : Z := by
 clear h
 go_enter Tryz.func71, Tryz.ntmps71
 go_wp2
 refine bodyPost_ret (v := .agg (qbq 1 0 (.slice none 0 0))) ?_ rfl ⟨rfl, below3 _ _ _ _⟩
 exact results_cell_row rfl _ _ (w.heap.size + 1) 138 _ _ _ rfl (qff _ _ _ _) Tryz.underlying138 rfl qbz) : Z := z
theorem zP43x04 {Z : Prop} (z : Z := by
 go_enter Tryz.func71, Tryz.ntmps71
 go_wp2
 refine bodyPost_ret (v := .agg (qbq 1 0 (.slice none 0 0))) ?_ rfl ⟨rfl, below3 _ _ _ _⟩
 exact results_cell_row rfl _ _ (w.heap.size + 1) 138 _ _ _ rfl (qff _ _ _ _) Tryz.underlying138 rfl qbz) : Z := z
theorem rfrom_bad (S : Nat) (vm : Value) (l : Int) (tb va : Nat) (h : ¬ (isLv l = true ∧ tb % 4096 = 0 ∧ va < 281474976710656)) (w : World) :
  Calls Tryz.prog 71 #[.agg #[.int .u64 S, vm], .int .i64 l, .int .u64 tb, .int .u64 va] w fun e w' => e = .returned (.agg (qbq 1 0 (.slice none 0 0))) ∧ Below w.heap.size w w' := by
 by_cases h1 : l < 0
 ·have d1 : decide (l < 0) = true := decide_eq_true h1
  exact zP43x03
 ·by_cases h2 : 3 < l
  ·have d1 : decide (l < 0) = false := decide_eq_false h1
   have d2 : decide (3 < l) = true := decide_eq_true h2
   exact zP43x03
  ·by_cases h3 : tb % 4096 = 0
   ·have h4 : ¬ va < 281474976710656 := fun c => h ⟨decide_eq_true (by omega), h3, c⟩
    have d1 : decide (l < 0) = false := decide_eq_false h1
    have d2 : decide (3 < l) = false := decide_eq_false h2
    have h3' : (tb : Int) % 4096 = 0 := by omega
    have h4' : (281474976710656 : Int) ≤ va := by omega
    clear h h3 h4
    exact zP43x04
   ·have d1 : decide (l < 0) = false := decide_eq_false h1
    have d2 : decide (3 < l) = false := decide_eq_false h2
    have h3' : ¬ (tb : Int) % 4096 = 0 := by omega
    clear h h3
    exact zP43x04
theorem zP43x01 {Z : Prop} (z : Z := by
 go_wp2_with (first
  | (refine wpList_load_row rfl 138 _ rfl (w.heap.size + 1 + 1) rfl _ _ _ _ k9 Tryz.underlying138 rfl qbz ?_)
  | (refine wpList_store_row rfl 138 _ _ rfl (w.heap.size + 1) (qbq 4 l sv2) rfl rfl 138 _ k8 qbz rfl (zero11_one 4 l hsv1) ?_))
 refine bodyPost_ret (v := .agg (resL r0.2 sv2).toArray) ?_ rfl ⟨sv2, rfl, ?_, below_setRow hB2 (by omega) _⟩
 ·rw [HW.out.2]
  exact results_cell_row rfl _ _ (w.heap.size + 1) 138 _ _ _ rfl (setRow_heap _ _ _ _ _ _ k8) Tryz.underlying138 rfl qbz
 ·rw [← HW.out.1]
  exact (own_psl (hown2.turn (qbk _ _ _) (by omega))).mono (fun g hg => by omega)) : Z := z
theorem zP43x02 {Z : Prop} (z : Z := by
 show _ ∧ _
 have hm : mf S l (f t) = 4 := by rw [hfx]; unfold mf; rw [if_neg hng, if_neg h0, if_pos ⟨h1, by have := Nat.two_pow_pos (lowK l); omega⟩]
 have hk := qfi (f := f) (va := va) hl.symm HT2.out HT.out.2 (by rw [hm]; decide)
 rw [hk, hm, hfx] at he1 he2
 rw [← he1, ← he2]
 exact ⟨rfl, rfl⟩) : Z := z
theorem zP43x05 {Z : Prop} (z : Z := by
 exact results_cell_row rfl _ _ (w.heap.size + 1) 138 _ _ _ rfl (setRow_heap _ _ _ _ _ _ k8) Tryz.underlying138 rfl qbz) : Z := z
theorem rfrom_ok (l0 : Int) (tb0 va : Nat) (hl0 : isLv l0 = true) (htm : tb0 % 4096 = 0) (htl : tb0 < 18446744073709551616) (hva : va < 281474976710656) {w : World} {B : Nat → Prop} {S : Nat} {vm : Value} {Lm : WL} {f : Nat → Nat} (hP : Psl w B vm Lm) (hRf : Ref Lm f) (hlen : Lm.length < 100000000) (hout : ∀ x, errA S x ≠ 0 → f x = 0) (hfl : ∀ x, f x < 18446744073709551616) (hS : S ≤ 4294967296) :
  Calls Tryz.prog 71 #[.agg #[.int .u64 S, vm], .int .i64 l0, .int .u64 tb0, .int .u64 va] w fun e w' => ∃ sv, e = .returned (.agg (resL (wk S f va (4 - l0).toNat tb0).2 sv).toArray) ∧ Psl w' (fun g => w.heap.size ≤ g) sv (wk S f va (4 - l0).toNat tb0).1 ∧ Below w.heap.size w w' := by
 have hv64 : va < 18446744073709551616 := by omega
 have h4 := qdf hl0
 generalize hr0 : wk S f va (4 - l0).toNat tb0 = r0
 obtain ⟨pm, cm, hvm, -⟩ := hP.form
 subst hvm
 have HP := Hid.mk hP
 have HRf := Hid.mk hRf
 have HO := Hid.mk hout
 have HL := Hid.mk hfl
 have HR0 := Hid.mk hr0
 generalize hNm : Lm.length = Nm at *
 have e1 : ¬ l0 < 0 := by omega
 have e2 : ¬ 3 < l0 := by omega
 have e3 : (tb0 : Int) % 4096 = 0 := by omega
 have e4 : ¬ (281474976710656 : Int) ≤ va := by omega
 clear hP hRf hout hfl hr0
 go_enter Tryz.func71, Tryz.ntmps71
 go_wp2_with fail
 have k4 := heap_alloc3_0 w (.cells #[.int .u64 S, .slice pm Nm cm] 29) (.cells (qbq 0 0 (.slice none 0 0)) 138) (.cells (qbq 1 0 (.slice none 0 0)) 138)
 have k8 := qff w (.cells #[.int .u64 S, .slice pm Nm cm] 29) (.cells (qbq 0 0 (.slice none 0 0)) 138) (.cells (qbq 1 0 (.slice none 0 0)) 138)
 have k9 := heap_alloc3_2 w (.cells #[.int .u64 S, .slice pm Nm cm] 29) (.cells (qbq 0 0 (.slice none 0 0)) 138) (.cells (qbq 1 0 (.slice none 0 0)) 138)
 have hB := below3 w (.cells #[.int .u64 S, .slice pm Nm cm] 29) (.cells (qbq 0 0 (.slice none 0 0)) 138) (.cells (qbq 1 0 (.slice none 0 0)) 138)
 have hst : GRel w (((w.alloc (.cells #[.int .u64 S, .slice pm Nm cm] 29)).alloc (.cells (qbq 0 0 (.slice none 0 0)) 138)).alloc (.cells (qbq 1 0 (.slice none 0 0)) 138)) S (.slice pm Nm cm) f va r0 (3 - l0).toNat tb0 [] (.slice none 0 0) := ⟨by omega, htm, htl, by simp; omega, k4, k8, k9, World.ownsRow_nil _ _ _ _, hB, by rw [List.nil_append, show (3 - l0).toNat + 1 = (4 - l0).toNat by omega, HR0.out], by rw [show (3 - l0).toNat + 1 = (4 - l0).toNat by omega, HR0.out]⟩
 have HST := Hid.mk hst
 clear hst k4 k8 k9 hB
 go_loopw [1, 2] (fun s1 s2 wr => ∃ (k tb : Nat) (L : WL) (sv : Value), s1 = .int .i64 (3 - (k : Int)) ∧ s2 = .int .u64 tb ∧ GRel w wr S (.slice pm Nm cm) f va r0 k tb L sv) (fun s1 _ _ => (4 - intOf s1).toNat)
 case atStart => exact ⟨(3 - l0).toNat, tb0, [], _, by congr 1; omega, rfl, HST.out⟩
 case round =>
  clear HST HR0
  obtain ⟨k, tb, L, sv, rfl, rfl, hR⟩ := hrel
  obtain ⟨hk3, htm', htl', hll, h4', h8, h9, hown, hB, he1, he2⟩ := hR
  have hlv : isLv (3 - (k : Int)) = true := decide_eq_true (by omega)
  have hl4 : (3 - (k : Int)) < 4 := by omega
  generalize hl : (3 - (k : Int)) = l at *
  have hix : idxI va l = ((idxN va l : Nat) : Int) := by unfold idxI; rw [if_pos hlv]
  have hI := fun w => refIndex_any va l hlv hv64 w
  rw [hix] at hI
  have hi := idxN_lt va l
  generalize htt : tb + 8 * idxN va l = t at *
  have ht64 : t < 18446744073709551616 := by omega
  generalize hii : idxN va l = i at *
  have hi2 : (i : Int) < 512 := by omega
  have HTT : Hid ((tb : Int) + (i : Int) * 8 = ((t : Nat) : Int)) := by show _ = _; omega
  have hsum : (tb : Int) + (i : Int) * 8 < 18446744073709551616 := by omega
  clear hix
  go_wp2_with fail
  refine (hI _).mono ?_
  rintro e w2 ⟨rfl, hb⟩
  obtain ⟨h4', h8, h9⟩ := bl3 hb h4' h8 h9
  replace hown := hown.later hb
  replace hB := qab hB hb
  obtain ⟨c0, c1, cf0, cf1⟩ := qbi h4'
  clear hb hI
  go_wp2_with fail
  rw [HTT.out]
  have hPw := HP.out.below (w' := w2) (by exact ⟨hB.os, hB.tape, hB.output, hB.size, hB.block⟩)
  refine (rread_c (S := S) hPw HRf.out (by omega) t (HO.out t)).mono ?_
  rintro e w4 ⟨rfl, hb⟩
  obtain ⟨h4', h8, h9⟩ := bl3 hb h4' h8 h9
  replace hown := hown.later hb
  replace hB := qab hB hb
  have hx64 := HL.out t
  clear hb c0 c1 cf0 cf1 hPw
  by_cases he : errA S t = 0
  ·rw [he]
   have c910 := cell_of_row _ (w.heap.size + 1 + 1) 10 _ _ _ h9
   rw [show (qbq 1 0 sv)[10]? = some sv from rfl] at c910
   have HT := Hid.mk (And.intro htt he)
   have HT2 : Hid (t = tb + 8 * idxN va l) := by show t = _; rw [hii, htt]
   generalize hfx : f t = x at *
   have hs4 := hB.size
   have hs9 := qag h9
   clear he HTT
   go_wp2_with (first
    | (at_builtin; refine wpList_app6 _ rfl _ _ rfl (w.heap.size + 3) _ L rfl (hown.alloc _) t x w4.heap.size rfl (heap_alloc_new _ _) (by omega) (by simp; omega) ?_
       intro g cap w5 hown5 hgr
       have k4 := grown_block hown hgr h4' (by omega)
       have k8 := grown_block hown hgr h8 (by omega)
       have k9 := grown_block hown hgr h9 (by omega)
       have hB5 := grown_below hown hgr hB (by omega)
       clear hgr hown h4' h8 h9 hB c910)
    | (refine qaj rfl 136 _ _ rfl (w.heap.size + 1 + 1) 10 _ #[.slice (some ⟨g, 0, none⟩) (L.length + 1) cap] rfl rfl rfl 138 _ k9 (show 10 + 1 ≤ 11 by decide) info_sl6 (by simp [Value.oneCell']) (qbq 1 0 (.slice (some ⟨g, 0, none⟩) (L.length + 1) cap)) rfl ?_
       intro w6 h9 ht
       have h4' := qae ht k4 (by omega)
       have h8 := qae ht k8 (by omega)
       have hB := qaf hB5 ht (by omega)
       have hown := hown5.turn ht (by omega)
       clear ht k4 k8 k9 hB5 hown5)
    | fail)
   generalize hsv2 : (Value.slice (some ⟨g, 0, none⟩) (L.length + 1) cap) = sv2 at *
   have hsv1 : sv2.oneCell' = true := by rw [← hsv2]; rfl
   replace hown : Own6 w6 (w.heap.size + 3) sv2 (L ++ [(t, x)]) := hown
   clear hsv2 htt hii hsum hi2 hi htm' htl' ht64 hs4 hs9
   cases hgd : qde l x
   ·have HW : Hid ((L ++ [(t, x)]) = r0.1 ∧ (resL r0.2 sv2).toArray = qbq 4 l sv2) := by
     show _ ∧ _
     have hm : mf S l (f t) = 4 := by rw [hfx]; unfold mf; rw [if_pos hgd]
     have hk := qfi (f := f) (va := va) hl.symm HT2.out HT.out.2 (by rw [hm]; decide)
     rw [hk, hm, hfx] at he1 he2
     rw [← he1, ← he2]
     exact ⟨rfl, rfl⟩
    refine (rdec_fail l x hlv hx64 hgd _).mono ?_
    rintro e w7 ⟨rfl, hb⟩
    obtain ⟨h4', h8, h9⟩ := bl3 hb h4' h8 h9
    replace hB := qab hB hb
    replace hown := hown.later hb
    have hn1 : w7.heap.size ≠ w.heap.size + 1 + 1 := Nat.ne_of_gt (qag h9)
    clear hb he1 he2 hgd
    have h13 := heap_alloc_new w7 (.cells #[.int .i64 0, .int .u64 0, .bool false, .bool false, .bool false, .bool false, .int .i64 0] 92)
    replace h4' := qaa (qac w7 (.cells #[.int .i64 0, .int .u64 0, .bool false, .bool false, .bool false, .bool false, .int .i64 0] 92)) h4'
    replace h8 := qaa (qac w7 (.cells #[.int .i64 0, .int .u64 0, .bool false, .bool false, .bool false, .bool false, .int .i64 0] 92)) h8
    replace h9 := qaa (qac w7 (.cells #[.int .i64 0, .int .u64 0, .bool false, .bool false, .bool false, .bool false, .int .i64 0] 92)) h9
    replace hB := qab hB (qac w7 (.cells #[.int .i64 0, .int .u64 0, .bool false, .bool false, .bool false, .bool false, .int .i64 0] 92))
    replace hown := hown.alloc (.cells #[.int .i64 0, .int .u64 0, .bool false, .bool false, .bool false, .bool false, .int .i64 0] 92)
    go_upto_region 12 with fail
    generalize w7.alloc (.cells #[.int .i64 0, .int .u64 0, .bool false, .bool false, .bool false, .bool false, .int .i64 0] 92) = w8 at *
    obtain ⟨⟨m0, m1, -⟩, -⟩ := qbw h13
    go_wp2_with (first
     | (refine qaj rfl 65 _ _ rfl (w.heap.size + 1 + 1) 8 _ #[.int .i64 4, .int .i64 l] rfl rfl rfl 138 _ h9 (show 8 + 2 ≤ 11 by decide) info_F (qch 4 l) (qbq 4 l sv2) rfl ?_
        intro w9 k9 ht
        have k8 := qae ht h8 (by omega)
        have k4 := qae ht h4' (by omega)
        have k13 := qae ht h13 hn1
        have hB2 := qaf hB ht (by omega)
        have hown2 := hown.turn ht (by omega)
        obtain ⟨⟨m0, m1, -⟩, -⟩ := qbw k13
        obtain ⟨n0, -, -, -⟩ := qbi k4
        clear ht h4' h8 h9 h13 hB hown)
     | fail)
    go_quiet (fail)
    have hB2' : Below w.heap.size w (w9.drewN nq) := qab hB2 (qco ⟨_, rfl⟩)
    have k8' : (w9.drewN nq).heap[w.heap.size + 1]? = _ := k8
    have k9' : (w9.drewN nq).heap[w.heap.size + 1 + 1]? = _ := k9
    have hown2' : Own6 (w9.drewN nq) (w.heap.size + 3) sv2 (L ++ [(t, x)]) := hown2
    clear k8 k9 hown2 hB2 m0 m1 n0 k4 k13
    generalize w9.drewN nq = w10 at *
    have hB2 := hB2'
    have k8 := k8'
    have k9 := k9'
    have hown2 := hown2'
    clear hB2' k8' k9' hown2'
    exact zP43x01
   ·have hD := rdec_good l x hlv hx64 hgd w6
    rw [show rdV l x = .agg #[.int .i64 (rdK l x), .int .u64 (rdO x : Nat), .bool (rdU l x), .bool (rdR l x), .bool (rdX l x), .bool (rdS l x), .int .i64 (rdA l x)] from rfl] at hD
    have hng : ¬ qde l x = false := by rw [hgd]; decide
    rcases rdK_range l x with hk | hk | hk
    ·have HW : Hid ((L ++ [(t, x)]) = r0.1 ∧ (resL r0.2 sv2).toArray = qbq 1 l sv2) := by
      show _ ∧ _
      have hm : mf S l (f t) = 1 := by rw [hfx]; unfold mf; rw [if_neg hng, if_pos hk]
      have hk := qfi (f := f) (va := va) hl.symm HT2.out HT.out.2 (by rw [hm]; decide)
      rw [hk, hm, hfx] at he1 he2
      rw [← he1, ← he2]
      exact ⟨rfl, rfl⟩
     have h1 : rdK l x ≠ 1 := by rw [hk]; decide
     have HZ : Hid (rdK l x = 0) := hk
     have HSV := Hid.mk hsv1
     clear he1 he2 hgd hng hk hlen htm htl hva hS hv64 h4 hll e1 e2 e3 e4 hx64 hl0 hk3 hl hl4 hfx HT HT2 HRf HO HL HP hNm
     generalize rdO x = oo at *
     generalize rdU l x = eU at *
     generalize rdR l x = eR at *
     generalize rdX l x = eX at *
     generalize rdS l x = eS at *
     generalize rdA l x = eA at *
     generalize rdK l x = kk at *
     refine hD.mono ?_
     clear hD
     rintro e w7 ⟨rfl, hb⟩
     obtain ⟨h4', h8, h9⟩ := bl3 hb h4' h8 h9
     replace hB := qab hB hb
     replace hown := hown.later hb
     have hn1 : w7.heap.size ≠ w.heap.size + 1 + 1 := Nat.ne_of_gt (qag h9)
     clear hb
     have h13 := heap_alloc_new w7 (.cells #[.int .i64 kk, .int .u64 oo, .bool eU, .bool eR, .bool eX, .bool eS, .int .i64 eA] 92)
     replace h4' := qaa (qac w7 (.cells #[.int .i64 kk, .int .u64 oo, .bool eU, .bool eR, .bool eX, .bool eS, .int .i64 eA] 92)) h4'
     replace h8 := qaa (qac w7 (.cells #[.int .i64 kk, .int .u64 oo, .bool eU, .bool eR, .bool eX, .bool eS, .int .i64 eA] 92)) h8
     replace h9 := qaa (qac w7 (.cells #[.int .i64 kk, .int .u64 oo, .bool eU, .bool eR, .bool eX, .bool eS, .int .i64 eA] 92)) h9
     replace hB := qab hB (qac w7 (.cells #[.int .i64 kk, .int .u64 oo, .bool eU, .bool eR, .bool eX, .bool eS, .int .i64 eA] 92))
     replace hown := hown.alloc (.cells #[.int .i64 kk, .int .u64 oo, .bool eU, .bool eR, .bool eX, .bool eS, .int .i64 eA] 92)
     go_upto_region 12 with fail
     generalize w7.alloc (.cells #[.int .i64 kk, .int .u64 oo, .bool eU, .bool eR, .bool eX, .bool eS, .int .i64 eA] 92) = w8 at *
     obtain ⟨⟨m0, m1, -⟩, -⟩ := qbw h13
     go_upto_region 16 with (first
      | (refine qaj rfl 65 _ _ rfl (w.heap.size + 1 + 1) 8 _ #[.int .i64 4, .int .i64 l] rfl rfl rfl 138 _ h9 (show 8 + 2 ≤ 11 by decide) info_F (qch 4 l) (qbq 4 l sv2) rfl ?_
         intro w9 k9 ht
         have k8 := qae ht h8 (by omega)
         have k4 := qae ht h4' (by omega)
         have k13 := qae ht h13 hn1
         have hB2 := qaf hB ht (by omega)
         have hown2 := hown.turn ht (by omega)
         obtain ⟨⟨m0, m1, -⟩, -⟩ := qbw k13
         obtain ⟨n0, -, -, -⟩ := qbi k4
         clear ht h4' h8 h9 h13 hB hown)
      | fail)
     have hz : (kk == 0) = true := by rw [HZ.out]; rfl
     go_upto_region 18 with (first
      | (refine qad rfl 3 _ _ rfl rfl (w.heap.size + 1 + 1) 8 _ #[.int .i64 1] rfl rfl rfl 138 _ k9 (show 8 + 1 ≤ 11 by decide) info_int (by simp [Value.oneCell']) (qbq 1 l sv2) rfl ?_
         intro w91 q9 ht
         clear k9
         have k9 := q9
         clear q9
         obtain ⟨k8, k4⟩ := bt2 ht k8 k4
         replace k13 := qae ht k13 hn1
         replace hB2 := qaf hB2 ht (by omega)
         replace hown2 := hown2.turn ht (by omega)
         clear m0 m1 n0 ht
         obtain ⟨⟨m0, m1, -⟩, -⟩ := qbw k13
         obtain ⟨n0, -, -, -⟩ := qbi k4)
      | fail)
     clear hz hn1 hsv1 m1 n0
     have hsv1 : sv2.oneCell' = true := HSV.out
     have K8 := Hid.mk k8
     have K9 := Hid.mk k9
     have HOW := Hid.mk hown2
     have HB2 := Hid.mk hB2
     clear k8 k9 k13 k4 hown2 hB2
     have dk : decide ((1 : Int) < kk) = false := by rw [HZ.out]; rfl
     clear HZ h1
     go_quiet (fail)
     have hBx : Below w91.heap.size w91 (w91.drewN nq) := qco ⟨_, rfl⟩
     have k8 := qaa hBx K8.out
     have k9 := qaa hBx K9.out
     have hown2 := HOW.out.later hBx
     have hB2 := qab HB2.out hBx
     clear hBx K8 K9 HOW HB2
     generalize w91.drewN nq = w10 at *
     go_wp2_with (first
      | (refine wpList_load_row rfl 138 _ rfl (w.heap.size + 1 + 1) rfl _ _ _ _ k9 Tryz.underlying138 rfl qbz ?_)
      | (refine wpList_store_row rfl 138 _ _ rfl (w.heap.size + 1) (qbq 1 l sv2) rfl rfl 138 _ k8 qbz rfl (zero11_one 1 l hsv1) ?_))
     refine bodyPost_ret (v := .agg (resL r0.2 sv2).toArray) ?_ rfl ⟨sv2, rfl, ?_, below_setRow hB2 (by omega) _⟩
     ·rw [HW.out.2]
      exact zP43x05
     ·rw [← HW.out.1]
      exact (own_psl (hown2.turn (qbk _ _ _) (by omega))).mono (fun g hg => by omega)
    ·have hk0 : k ≠ 0 := by
      rintro rfl
      have : l = 3 := by omega
      subst this
      exact rdK_deep x hk
     have hm : mf S l (f t) = 0 := by rw [hfx]; unfold mf; rw [if_neg hng, if_neg (by rw [hk]; decide), if_neg (fun c => c.1 hk)]
     have hw := wk_table (f := f) (va := va) hl.symm HT2.out HT.out.2 hm (by rw [hfx]; exact hk)
     rw [hfx] at hw
     rw [hw] at he1 he2
     have HE1 := Hid.mk he1
     have HE2 := Hid.mk he2
     have hll2 : Hid ((L ++ [(t, x)]).length + (k - 1) ≤ 3 ∧ rdO x % 4096 = 0 ∧ rdO x < 18446744073709551616) := by
      show _ ∧ _
      exact ⟨by simp; omega, rdO_mod x, rdO_lt x⟩
     rw [hk] at hD
     clear he1 he2 hgd hng hk hw hm hll
     generalize rdO x = oo at *
     generalize rdU l x = eU at *
     generalize rdR l x = eR at *
     generalize rdX l x = eX at *
     generalize rdS l x = eS at *
     generalize rdA l x = eA at *
     refine hD.mono ?_
     clear hD
     rintro e w7 ⟨rfl, hb⟩
     obtain ⟨h4', h8, h9⟩ := bl3 hb h4' h8 h9
     replace hB := qab hB hb
     replace hown := hown.later hb
     have hn1 : w7.heap.size ≠ w.heap.size + 1 + 1 := Nat.ne_of_gt (qag h9)
     clear hb
     have h13 := heap_alloc_new w7 (.cells #[.int .i64 1, .int .u64 oo, .bool eU, .bool eR, .bool eX, .bool eS, .int .i64 eA] 92)
     replace h4' := qaa (qac w7 (.cells #[.int .i64 1, .int .u64 oo, .bool eU, .bool eR, .bool eX, .bool eS, .int .i64 eA] 92)) h4'
     replace h8 := qaa (qac w7 (.cells #[.int .i64 1, .int .u64 oo, .bool eU, .bool eR, .bool eX, .bool eS, .int .i64 eA] 92)) h8
     replace h9 := qaa (qac w7 (.cells #[.int .i64 1, .int .u64 oo, .bool eU, .bool eR, .bool eX, .bool eS, .int .i64 eA] 92)) h9
     replace hB := qab hB (qac w7 (.cells #[.int .i64 1, .int .u64 oo, .bool eU, .bool eR, .bool eX, .bool eS, .int .i64 eA] 92))
     replace hown := hown.alloc (.cells #[.int .i64 1, .int .u64 oo, .bool eU, .bool eR, .bool eX, .bool eS, .int .i64 eA] 92)
     go_upto_region 12 with fail
     generalize w7.alloc (.cells #[.int .i64 1, .int .u64 oo, .bool eU, .bool eR, .bool eX, .bool eS, .int .i64 eA] 92) = w8 at *
     obtain ⟨⟨m0, m1, -⟩, -⟩ := qbw h13
     go_wp2
     refine ⟨⟨k - 1, oo, (L ++ [(t, x)]), sv2, by congr 1; omega, rfl, ⟨by omega, hll2.out.2.1, hll2.out.2.2, hll2.out.1, h4', h8, h9, hown, hB, ?_, ?_⟩⟩, by simp [intOf]; omega⟩
     ·rw [show k - 1 + 1 = k by omega, List.append_assoc]
      exact HE1.out
     ·rw [show k - 1 + 1 = k by omega]
      exact HE2.out
    ·have h0 : ¬ rdK l x = 0 := by rcases hk with hk | hk <;> rw [hk] <;> decide
     have h1 : rdK l x ≠ 1 := by rcases hk with hk | hk <;> rw [hk] <;> decide
     have h2 : (1 : Int) < rdK l x := by rcases hk with hk | hk <;> rw [hk] <;> decide
     have dk : decide ((1 : Int) < rdK l x) = true := decide_eq_true h2
     clear hk
     by_cases hle : rdO x ≤ S
     ·have hle2 : (rdO x : Int) ≤ S := by omega
      have hsub : (0 : Int) ≤ (S : Int) - rdO x := by omega
      have hwr : IntKind.u64.wrap ((S : Int) - rdO x) = (S : Int) - rdO x := by rw [IntKind.wrap_u64]; omega
      by_cases hfit : rdO x + 2 ^ lowK l ≤ S
      ·have hfit2 : ((2 ^ lowK l : Nat) : Int) ≤ (S : Int) - rdO x := by omega
       have HW : Hid ((L ++ [(t, x)]) = r0.1 ∧ (resL r0.2 sv2).toArray = (l11 (.int .i64 l :: d7 l x) zF sv2).toArray) := by
        show _ ∧ _
        have hm : mf S l (f t) = 0 := by rw [hfx]; unfold mf; rw [if_neg hng, if_neg h0, if_neg (fun c => by omega)]
        have hk := wk_leaf (f := f) (va := va) hl.symm HT2.out HT.out.2 hm (by rw [hfx]; exact h1)
        rw [hk, hfx] at he1 he2
        rw [← he1, ← he2]
        exact ⟨rfl, rfl⟩
       unfold d7 at HW
       clear he1 he2 hgd hng hle hfit hlen htm htl hva hS hv64 h4 hll e1 e2 e3 e4 hx64 hl0 hk3 hl hl4 hfx HT HT2 HRf HO HL HP hNm
       generalize rdO x = oo at *
       generalize rdU l x = eU at *
       generalize rdR l x = eR at *
       generalize rdX l x = eX at *
       generalize rdS l x = eS at *
       generalize rdA l x = eA at *
       generalize rdK l x = kk at *
       refine hD.mono ?_
       clear hD
       rintro e w7 ⟨rfl, hb⟩
       obtain ⟨h4', h8, h9⟩ := bl3 hb h4' h8 h9
       replace hB := qab hB hb
       replace hown := hown.later hb
       have hn1 : w7.heap.size ≠ w.heap.size + 1 + 1 := Nat.ne_of_gt (qag h9)
       clear hb
       have h13 := heap_alloc_new w7 (.cells #[.int .i64 kk, .int .u64 oo, .bool eU, .bool eR, .bool eX, .bool eS, .int .i64 eA] 92)
       replace h4' := qaa (qac w7 (.cells #[.int .i64 kk, .int .u64 oo, .bool eU, .bool eR, .bool eX, .bool eS, .int .i64 eA] 92)) h4'
       replace h8 := qaa (qac w7 (.cells #[.int .i64 kk, .int .u64 oo, .bool eU, .bool eR, .bool eX, .bool eS, .int .i64 eA] 92)) h8
       replace h9 := qaa (qac w7 (.cells #[.int .i64 kk, .int .u64 oo, .bool eU, .bool eR, .bool eX, .bool eS, .int .i64 eA] 92)) h9
       replace hB := qab hB (qac w7 (.cells #[.int .i64 kk, .int .u64 oo, .bool eU, .bool eR, .bool eX, .bool eS, .int .i64 eA] 92))
       replace hown := hown.alloc (.cells #[.int .i64 kk, .int .u64 oo, .bool eU, .bool eR, .bool eX, .bool eS, .int .i64 eA] 92)
       go_upto_region 12 with fail
       generalize w7.alloc (.cells #[.int .i64 kk, .int .u64 oo, .bool eU, .bool eR, .bool eX, .bool eS, .int .i64 eA] 92) = w8 at *
       obtain ⟨⟨m0, m1, -⟩, -⟩ := qbw h13
       go_wp2_with (first
        | (refine qaj rfl 65 _ _ rfl (w.heap.size + 1 + 1) 8 _ #[.int .i64 4, .int .i64 l] rfl rfl rfl 138 _ h9 (show 8 + 2 ≤ 11 by decide) info_F (qch 4 l) (qbq 4 l sv2) rfl ?_
           intro w9 k9 ht
           have k8 := qae ht h8 (by omega)
           have k4 := qae ht h4' (by omega)
           have k13 := qae ht h13 hn1
           have hB2 := qaf hB ht (by omega)
           have hown2 := hown.turn ht (by omega)
           obtain ⟨⟨m0, m1, -⟩, -⟩ := qbw k13
           obtain ⟨n0, -, -, -⟩ := qbi k4
           clear ht h4' h8 h9 h13 hB hown)
        | fail)
       have hSz := fun w1 => refSize_any l hlv w1
       have K8 := Hid.mk k8
       have K9 := Hid.mk k9
       have K13 := Hid.mk k13
       have HOW := Hid.mk hown2
       have HB2 := Hid.mk hB2
       clear k8 k9 k13 k4 hown2 hB2
       generalize 2 ^ lowK l = pw at *
       go_region_held3 (fun w' => w'.cell? ⟨w7.heap.size, 0, none⟩ = some (.int .i64 kk) ∧ w'.cell? ⟨w7.heap.size, 1, none⟩ = some (.int .u64 oo) ∧ w'.cell? ⟨w.heap.size, 0, none⟩ = some (.int .u64 S) ∧ Below w9.heap.size w9 w')
        ((go_split_ands; refine ⟨?_, ?_, ?_, ?_⟩ <;> first | (with_reducible assumption) | (with_reducible exact cell_later hbm (by assumption)) | (with_reducible exact qab (by assumption) hbm) | (with_reducible exact cell_drw (by assumption)) | (with_reducible exact (Below.refl _ _).drew) | exact (Below.refl _ _).drew))
        (first | (go_at_call 111; refine (hSz _).mono ?_; rintro e w' ⟨rfl, hbm⟩))
       all_goals
        go_split_ands
        have hBx : Below w9.heap.size w9 w' := by assumption
        have k8 := qaa hBx K8.out
        have k9 := qaa hBx K9.out
        have k13 := qaa hBx K13.out
        have hown2 := HOW.out.later hBx
        have hB2 := qab HB2.out hBx
        clear hBx
        go_wp2_with (first
         | (refine qaj rfl 65 _ _ rfl (w.heap.size + 1 + 1) 8 _ #[.int .i64 0, .int .i64 0] rfl rfl rfl 138 _ k9 (show 8 + 2 ≤ 11 by decide) info_F (qch 0 0) (qbq 0 0 sv2) rfl ?_
            intro wa ka9 ht
            have ka8 := qae ht k8 (by omega)
            have ka13 := qae ht k13 hn1
            have hBa := qaf hB2 ht (by omega)
            have howna := hown2.turn ht (by omega)
            clear ht k8 k9 k13 hB2 hown2)
         | (refine qaj rfl 3 _ _ rfl (w.heap.size + 1 + 1) 0 _ #[.int .i64 l] rfl rfl rfl 138 _ ka9 (show 0 + 1 ≤ 11 by decide) info_int (by simp [Value.oneCell']) #[.int .i64 l, .int .i64 0, .int .u64 0, .bool false, .bool false, .bool false, .bool false, .int .i64 0, .int .i64 0, .int .i64 0, sv2] rfl ?_
            intro wb kb9 ht
            have kb8 := qae ht ka8 (by omega)
            have kb13 := qae ht ka13 hn1
            have hBb := qaf hBa ht (by omega)
            have hownb := howna.turn ht (by omega)
            clear ht ka8 ka9 ka13 hBa howna)
         | (refine wpList_load_row rfl 92 _ rfl w7.heap.size rfl _ _ _ _ kb13 Tryz.underlying92 rfl info_D ?_)
         | (refine qaj rfl 92 _ _ rfl (w.heap.size + 1 + 1) 1 _ #[.int .i64 kk, .int .u64 oo, .bool eU, .bool eR, .bool eX, .bool eS, .int .i64 eA] rfl rfl rfl 138 _ kb9 (show 1 + 7 ≤ 11 by decide) info_D (by simp [Value.oneCell']) #[.int .i64 l, .int .i64 kk, .int .u64 oo, .bool eU, .bool eR, .bool eX, .bool eS, .int .i64 eA, .int .i64 0, .int .i64 0, sv2] rfl ?_
            intro wc k9 ht
            have k8 := qae ht kb8 (by omega)
            have hB2 := qaf hBb ht (by omega)
            have hown2 := hownb.turn ht (by omega)
            clear ht kb8 kb9 kb13 hBb hownb)
         | (refine wpList_load_row rfl 138 _ rfl (w.heap.size + 1 + 1) rfl _ _ _ _ k9 Tryz.underlying138 rfl qbz ?_)
         | (refine wpList_store_row rfl 138 _ _ rfl (w.heap.size + 1) #[.int .i64 l, .int .i64 kk, .int .u64 oo, .bool eU, .bool eR, .bool eX, .bool eS, .int .i64 eA, .int .i64 0, .int .i64 0, sv2] rfl rfl 138 _ k8 qbz rfl (leaf11_one _ _ _ _ _ _ _ _ hsv1) ?_))
        refine bodyPost_ret (v := .agg (resL r0.2 sv2).toArray) ?_ rfl ⟨sv2, rfl, ?_, below_setRow hB2 (by omega) _⟩
        ·rw [HW.out.2]
         exact zP43x05
        ·rw [← HW.out.1]
         exact (own_psl (hown2.turn (qbk _ _ _) (by omega))).mono (fun g hg => by omega)
      ·have hfit2 : ¬ ((2 ^ lowK l : Nat) : Int) ≤ (S : Int) - rdO x := by omega
       have HW : Hid ((L ++ [(t, x)]) = r0.1 ∧ (resL r0.2 sv2).toArray = qbq 4 l sv2) := by
        exact zP43x02
       clear he1 he2 hgd hng hle hfit hlen htm htl hva hS hv64 h4 hll e1 e2 e3 e4 hx64 hl0 hk3 hl hl4 hfx HT HT2 HRf HO HL HP hNm
       generalize rdO x = oo at *
       generalize rdU l x = eU at *
       generalize rdR l x = eR at *
       generalize rdX l x = eX at *
       generalize rdS l x = eS at *
       generalize rdA l x = eA at *
       generalize rdK l x = kk at *
       refine hD.mono ?_
       clear hD
       rintro e w7 ⟨rfl, hb⟩
       obtain ⟨h4', h8, h9⟩ := bl3 hb h4' h8 h9
       replace hB := qab hB hb
       replace hown := hown.later hb
       have hn1 : w7.heap.size ≠ w.heap.size + 1 + 1 := Nat.ne_of_gt (qag h9)
       clear hb
       have h13 := heap_alloc_new w7 (.cells #[.int .i64 kk, .int .u64 oo, .bool eU, .bool eR, .bool eX, .bool eS, .int .i64 eA] 92)
       replace h4' := qaa (qac w7 (.cells #[.int .i64 kk, .int .u64 oo, .bool eU, .bool eR, .bool eX, .bool eS, .int .i64 eA] 92)) h4'
       replace h8 := qaa (qac w7 (.cells #[.int .i64 kk, .int .u64 oo, .bool eU, .bool eR, .bool eX, .bool eS, .int .i64 eA] 92)) h8
       replace h9 := qaa (qac w7 (.cells #[.int .i64 kk, .int .u64 oo, .bool eU, .bool eR, .bool eX, .bool eS, .int .i64 eA] 92)) h9
       replace hB := qab hB (qac w7 (.cells #[.int .i64 kk, .int .u64 oo, .bool eU, .bool eR, .bool eX, .bool eS, .int .i64 eA] 92))
       replace hown := hown.alloc (.cells #[.int .i64 kk, .int .u64 oo, .bool eU, .bool eR, .bool eX, .bool eS, .int .i64 eA] 92)
       go_upto_region 12 with fail
       generalize w7.alloc (.cells #[.int .i64 kk, .int .u64 oo, .bool eU, .bool eR, .bool eX, .bool eS, .int .i64 eA] 92) = w8 at *
       obtain ⟨⟨m0, m1, -⟩, -⟩ := qbw h13
       go_wp2_with (first
        | (refine qaj rfl 65 _ _ rfl (w.heap.size + 1 + 1) 8 _ #[.int .i64 4, .int .i64 l] rfl rfl rfl 138 _ h9 (show 8 + 2 ≤ 11 by decide) info_F (qch 4 l) (qbq 4 l sv2) rfl ?_
           intro w9 k9 ht
           have k8 := qae ht h8 (by omega)
           have k4 := qae ht h4' (by omega)
           have k13 := qae ht h13 hn1
           have hB2 := qaf hB ht (by omega)
           have hown2 := hown.turn ht (by omega)
           obtain ⟨⟨m0, m1, -⟩, -⟩ := qbw k13
           obtain ⟨n0, -, -, -⟩ := qbi k4
           clear ht h4' h8 h9 h13 hB hown)
        | fail)
       have hSz := fun w1 => refSize_any l hlv w1
       have K8 := Hid.mk k8
       have K9 := Hid.mk k9
       have K13 := Hid.mk k13
       have HOW := Hid.mk hown2
       have HB2 := Hid.mk hB2
       clear k8 k9 k13 k4 hown2 hB2
       generalize 2 ^ lowK l = pw at *
       go_region_held3 (fun w' => w'.cell? ⟨w7.heap.size, 0, none⟩ = some (.int .i64 kk) ∧ w'.cell? ⟨w7.heap.size, 1, none⟩ = some (.int .u64 oo) ∧ w'.cell? ⟨w.heap.size, 0, none⟩ = some (.int .u64 S) ∧ Below w9.heap.size w9 w')
        ((go_split_ands; refine ⟨?_, ?_, ?_, ?_⟩ <;> first | (with_reducible assumption) | (with_reducible exact cell_later hbm (by assumption)) | (with_reducible exact qab (by assumption) hbm) | (with_reducible exact cell_drw (by assumption)) | (with_reducible exact (Below.refl _ _).drew) | exact (Below.refl _ _).drew))
        (first | (go_at_call 111; refine (hSz _).mono ?_; rintro e w' ⟨rfl, hbm⟩))
       all_goals
        go_split_ands
        have hBx : Below w9.heap.size w9 w' := by assumption
        have k8 := qaa hBx K8.out
        have k9 := qaa hBx K9.out
        have k13 := qaa hBx K13.out
        have hown2 := HOW.out.later hBx
        have hB2 := qab HB2.out hBx
        clear hBx
        go_wp2_with (first
         | (refine wpList_load_row rfl 138 _ rfl (w.heap.size + 1 + 1) rfl _ _ _ _ k9 Tryz.underlying138 rfl qbz ?_)
         | (refine wpList_store_row rfl 138 _ _ rfl (w.heap.size + 1) (qbq 4 l sv2) rfl rfl 138 _ k8 qbz rfl (zero11_one 4 l hsv1) ?_))
        refine bodyPost_ret (v := .agg (resL r0.2 sv2).toArray) ?_ rfl ⟨sv2, rfl, ?_, below_setRow hB2 (by omega) _⟩
        ·rw [HW.out.2]
         exact zP43x05
        ·rw [← HW.out.1]
         exact (own_psl (hown2.turn (qbk _ _ _) (by omega))).mono (fun g hg => by omega)
     ·have hle2 : ¬ (rdO x : Int) ≤ S := by omega
      have dle : decide ((rdO x : Int) ≤ S) = false := decide_eq_false hle2
      have HW : Hid ((L ++ [(t, x)]) = r0.1 ∧ (resL r0.2 sv2).toArray = qbq 4 l sv2) := by
       exact zP43x02
      clear he1 he2 hgd hng hle hlen htm htl hva hS hv64 h4 hll e1 e2 e3 e4 hx64 hl0 hk3 hl hl4 hfx HT HT2 HRf HO HL HP hNm
      generalize rdO x = oo at *
      generalize rdU l x = eU at *
      generalize rdR l x = eR at *
      generalize rdX l x = eX at *
      generalize rdS l x = eS at *
      generalize rdA l x = eA at *
      generalize rdK l x = kk at *
      refine hD.mono ?_
      clear hD
      rintro e w7 ⟨rfl, hb⟩
      obtain ⟨h4', h8, h9⟩ := bl3 hb h4' h8 h9
      replace hB := qab hB hb
      replace hown := hown.later hb
      have hn1 : w7.heap.size ≠ w.heap.size + 1 + 1 := Nat.ne_of_gt (qag h9)
      clear hb
      have h13 := heap_alloc_new w7 (.cells #[.int .i64 kk, .int .u64 oo, .bool eU, .bool eR, .bool eX, .bool eS, .int .i64 eA] 92)
      replace h4' := qaa (qac w7 (.cells #[.int .i64 kk, .int .u64 oo, .bool eU, .bool eR, .bool eX, .bool eS, .int .i64 eA] 92)) h4'
      replace h8 := qaa (qac w7 (.cells #[.int .i64 kk, .int .u64 oo, .bool eU, .bool eR, .bool eX, .bool eS, .int .i64 eA] 92)) h8
      replace h9 := qaa (qac w7 (.cells #[.int .i64 kk, .int .u64 oo, .bool eU, .bool eR, .bool eX, .bool eS, .int .i64 eA] 92)) h9
      replace hB := qab hB (qac w7 (.cells #[.int .i64 kk, .int .u64 oo, .bool eU, .bool eR, .bool eX, .bool eS, .int .i64 eA] 92))
      replace hown := hown.alloc (.cells #[.int .i64 kk, .int .u64 oo, .bool eU, .bool eR, .bool eX, .bool eS, .int .i64 eA] 92)
      go_upto_region 12 with fail
      generalize w7.alloc (.cells #[.int .i64 kk, .int .u64 oo, .bool eU, .bool eR, .bool eX, .bool eS, .int .i64 eA] 92) = w8 at *
      obtain ⟨⟨m0, m1, -⟩, -⟩ := qbw h13
      go_wp2_with (first
       | (refine qaj rfl 65 _ _ rfl (w.heap.size + 1 + 1) 8 _ #[.int .i64 4, .int .i64 l] rfl rfl rfl 138 _ h9 (show 8 + 2 ≤ 11 by decide) info_F (qch 4 l) (qbq 4 l sv2) rfl ?_
          intro w9 k9 ht
          have k8 := qae ht h8 (by omega)
          have k4 := qae ht h4' (by omega)
          have k13 := qae ht h13 hn1
          have hB2 := qaf hB ht (by omega)
          have hown2 := hown.turn ht (by omega)
          obtain ⟨⟨m0, m1, -⟩, -⟩ := qbw k13
          obtain ⟨n0, -, -, -⟩ := qbi k4
          clear ht h4' h8 h9 h13 hB hown)
       | fail)
      have K8 := Hid.mk k8
      have K9 := Hid.mk k9
      have HOW := Hid.mk hown2
      have HB2 := Hid.mk hB2
      clear k8 k9 k13 k4 hown2 hB2
      have dk : decide ((1 : Int) < kk) = true := decide_eq_true h2
      have dle : decide (oo ≤ S) = false := decide_eq_false (by omega)
      clear h0 h1 hle2
      go_quiet (fail)
      have hBx : Below w9.heap.size w9 (w9.drewN nq) := qco ⟨_, rfl⟩
      have k8 := qaa hBx K8.out
      have k9 := qaa hBx K9.out
      have hown2 := HOW.out.later hBx
      have hB2 := qab HB2.out hBx
      clear hBx K8 K9 HOW HB2
      generalize w9.drewN nq = w10 at *
      exact zP43x01
  ·have HW : Hid (L = r0.1 ∧ (resL r0.2 sv).toArray = qbq 4 l sv) := by
    show _ ∧ _
    have hk := wk_err (f := f) (va := va) hl.symm (show t = tb + 8 * idxN va l by rw [hii, htt]) he
    rw [hk] at he1 he2
    rw [← he1, ← he2, List.append_nil]
    exact ⟨rfl, rfl⟩
   have hsv1 := hown.one
   generalize errA S t = E at *
   clear HTT he1 he2 htt hii hsum hi2 hi htm' htl' ht64 hx64 hlen htm htl hva hS hv64 h4 hll e1 e2 e3 e4 hl0 hk3 hl hl4 hlv HRf HO HL HP hNm
   go_wp2_with (first
    | (refine qaj rfl 65 _ _ rfl (w.heap.size + 1 + 1) 8 _ #[.int .i64 4, .int .i64 l] rfl rfl rfl 138 _ h9 (show 8 + 2 ≤ 11 by decide) info_F (qch 4 l) (qbq 4 l sv) rfl ?_
       intro w5 k9 ht
       have k8 := qae ht h8 (by omega)
       have hB2 := qaf hB ht (by omega)
       have hown2 := hown.turn ht (by omega)
       clear ht h8 h9 hB hown)
    | (refine wpList_load_row rfl 138 _ rfl (w.heap.size + 1 + 1) rfl _ _ _ _ k9 Tryz.underlying138 rfl qbz ?_)
    | (refine wpList_store_row rfl 138 _ _ rfl (w.heap.size + 1) (qbq 4 l sv) rfl rfl 138 _ k8 qbz rfl (zero11_one 4 l hsv1) ?_))
   refine bodyPost_ret (v := .agg (resL r0.2 sv).toArray) ?_ rfl ⟨sv, rfl, ?_, below_setRow hB2 (by omega) _⟩
   ·rw [HW.out.2]
    exact zP43x05
   ·rw [← HW.out.1]
    exact (own_psl (hown2.turn (qbk _ _ _) (by omega))).mono (fun g hg => by omega)
end Go.Proofs.YtfdbdeckohaneaaGreatDoor
