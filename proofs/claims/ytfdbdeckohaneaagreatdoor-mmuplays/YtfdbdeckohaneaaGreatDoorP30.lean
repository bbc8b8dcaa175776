/- P30 -/
import Derived.Test.YtfdbdeckohaneaaGreatDoorP29
set_option maxHeartbeats 16000000
set_option maxRecDepth 100000
namespace Go.Proofs.YtfdbdeckohaneaaGreatDoor.MM
open Go.RowKit Go.Maps
abbrev bsV (R I : Nat) : Value := .agg #[.int .u64 R, .int .i64 I]
def bst (s : St) (I va : Nat) : TR.En := TR.bstE (fun e => TR.mB e (I : Int) va) s.K
def isLed (s : St) (I va : Nat) (h : Hn) : Bool := h.led && decide (1 ≤ (bst s I va).lv)
def stL (s : St) (I va : Nat) (h : Hn) : Int := if isLed s I va h = true then (bst s I va).lv else 0
def stT (s : St) (R I va : Nat) (h : Hn) : Nat := if isLed s I va h = true then (bst s I va).tb else R
theorem info_mk : (Tryz.prog.info? 96).map (·.size) = some 4 := by kernel_rfl
theorem qah {P : Program} {ops : Array Oper} {op : Oper} {a : Act} {w : World} {Q : Exit → Act → World → Prop} {K : Act → World → Prop} {E : Prop} (hgd : op.guard = none) (hd : op.dst = none) (ty : TypeId) (x y : Operand) (ho : op.op = .store ty x y)
  (g o : Nat) (v : Value) (cells : Array Value) (hx : a.eval x = .pointer (some ⟨g, o, none⟩)) (hy : a.eval y = v) (hc : v.cells = cells)
  (t : TypeId) (cur : Array Value) (hg : w.heap[g]? = some (.cells cur t (0, 0))) (hfit : o + cells.size ≤ cur.size) (hi : (P.info? ty).map (·.size) = some cells.size) (h1 : cells.all (·.oneCell') = true)
  (new : Array Value) (hnew : segA cur o cells.toList = new)
  (h : ∀ wq, wq.heap[g]? = some (.cells new t (0, 0)) → Turn (fun i => i = g) w wq → K a wq) : if Region.wanted op (yielded ops a.tmps) = true then Oper.wp P op a w K Q else E := by
 have hw : Region.wanted op (yielded ops a.tmps) = true := by simp [Region.wanted, hgd]
 rw [if_pos hw]
 have hst := run_storeCells_at P g o t cells.toList 0 cur w hg (by simpa using hfit) (fun v hv => (Array.all_eq_true_iff_forall_mem.1 h1) v (by simpa using hv))
 have hsv : (storeVar ty ⟨g, o, none⟩ v).run P w = .ok () (w.setRow g new) := by
  cases hq : P.info? ty with
  | none => simp [hq] at hi
  | some i =>
   have hs : cells.size = i.size := by simp [hq] at hi; omega
   simp only [Nat.add_zero] at hst
   rw [← hnew]
   simp [storeVar, sizeOf, typeInfo, hq, hc, hs, hst, segA]
 unfold Oper.wp execOp
 simp only [ho, hx, hy, Instr.storeAt, Instr.sureAddr, Sem.run_bind, Sem.run_pure, Result.andThen_ok, hsv]
 have h2 := h _ (setRow_heap _ _ _ _ _ _ hg) (qbk _ _ _)
 show K (a.put op.dst undef) _
 rw [hd]
 exact h2
section
variable {w0 w : World} {X : Nat → Prop} {x a n S : Nat} {most : Int} {s : St}
theorem qcf (w : World) (a b : Obj) : ((w.alloc a).alloc b).heap[w.heap.size]? = some a := qaa (qac _ _) (heap_alloc_new _ _)
theorem zP30x01 {Z : Prop} (z : Z := by
 refine rd1 12 (h := fun K hK => ?_)
 refine qah rfl rfl 96 _ _ rfl KA0 0 _ #[.int .i64 b0, .int .u64 b1, .int .i64 b2, .int .u64 b3] rfl rfl rfl 96 _ hr0 (show 0 + 4 ≤ 4 by decide) info_mk (by simp [Value.oneCell']) #[.int .i64 b0, .int .u64 b1, .int .i64 b2, .int .u64 b3] rfl ?_
 intro ws0 hrq htq
 replace k0 := TR.qam htq (fun c => by have := World.block_lt_of_cell? _ _ k0z; simp only at *; omega) k0
 replace k1 := TR.qam htq (fun c => by have := World.block_lt_of_cell? _ _ k1z; simp only at *; omega) k1
 replace hr0 := hrq
 replace HBz := HBz.trans (htq.below (lo := W.heap.size) (fun i hi => by rw [hi]; exact hg0) HBz.size)
 clear hrq htq
 refine hK.out _ _ ⟨k0, k1⟩ (fun hHelds0 => ?_)
 clear hK
 try simp only [Act.put, sq]
 refine tk 13 11 (h := ?_)
 refine wpAnyH_done (by kernel_rfl) ?_ _
 refine NoPanic.normal ?_
 go_wp2_with fail
 go_meet
 exact ⟨_, rfl, rfl, HBz, hg0, hr0⟩) : Z := z
theorem start_c (h : Mch w0 w X x a n S most s) (R I va : Nat) (hn : Hn) (hva : va < 18446744073709551616) :
  Calls Tryz.prog 97 #[.pointer (some ⟨x, 0, none⟩), bsV R I, .int .u64 va, hn.v] w fun r w' => r = .returned (.tuple #[.int .i64 (stL s I va hn), .int .u64 (stT s R I va hn : Nat)]) ∧ Below w.heap.size w w' := by
 obtain ⟨XM, XB, XT, tb, tr, pv, h⟩ := h
 obtain ⟨hf, hl, hk⟩ := hn
 cases hl
 ·show Calls _ _ _ _ (fun r w' => r = .returned (.tuple #[.int .i64 0, .int .u64 R]) ∧ Below w.heap.size w w')
  clear h
  go_enter Tryz.func97, Tryz.ntmps97
  go_wp2
  go_quiet (fail)
  go_wp2
  go_ret2
  exact ⟨rfl, TB.qav (qbx _ _ _) _⟩
 ·have HC := Hid.mk (fun W (hb : Below w.heap.size w W) => TR.best_c (h.trl.later hb) (by have := h.wf.el9; omega) (I : Int) va hva)
  have H := Hid.mk h
  have c2 := (row5 (qaa (qbx w (.cells #[.int .u64 R, .int .i64 I] 106) (.cells #[.bool hf, .bool true, .bool hk] 38)) h.row)).2.2.1
  clear h hva
  go_enter Tryz.func97, Tryz.ntmps97
  have hK := qcf w (.cells #[.int .u64 R, .int .i64 I] 106) (.cells #[.bool hf, .bool true, .bool hk] 38)
  have HBW := Hid.mk (qbx w (.cells #[.int .u64 R, .int .i64 I] 106) (.cells #[.bool hf, .bool true, .bool hk] 38))
  have e1 : stL s I va ⟨hf, true, hk⟩ = if decide (1 ≤ (bst s I va).lv) = true then (bst s I va).lv else 0 := rfl
  have e2 : stT s R I va ⟨hf, true, hk⟩ = if decide (1 ≤ (bst s I va).lv) = true then (bst s I va).tb else R := rfl
  rw [e1, e2]
  change Hid (∀ W, Below w.heap.size w W → Calls _ _ _ W fun r w' => r = .returned (.tuple #[(bst s I va).v, .bool (decide (1 ≤ (bst s I va).lv))]) ∧ Below W.heap.size W w') at HC
  clear e1 e2
  generalize bst s I va = b at *
  obtain ⟨b0, b1, b2, b3⟩ := b
  simp only [TR.En.v] at HC
  go_upto_region 2 with fail
  generalize (w.alloc (.cells #[.int .u64 R, .int .i64 I] 106)).alloc (.cells #[.bool hf, .bool true, .bool hk] 38) = W at *
  obtain ⟨h0, h1⟩ := TR.qaz hK
  have k0 := c2
  have k1 := h1
  have k0z := c2
  have k1z := h1
  go_cut [10, 11] (fun s10 s11 wc => ∃ K, s10 = .pointer (some ⟨K, 0, none⟩) ∧ s11 = .bool (decide (1 ≤ b2)) ∧ Below W.heap.size W wc ∧ W.heap.size ≤ K ∧ wc.heap[K]? = some (.cells #[.int .i64 b0, .int .u64 b1, .int .i64 b2, .int .u64 b3] 96 (0, 0)))
  case first =>
   obtain ⟨k0, k1⟩ := cl2 (Below.refl _ W).drew k0 k1
   refine hd2 k0 k1 (h := fun hHeld => ?_)
   refine tk 0 15 (h := ?_)
   refine tk 1 16 (h := ?_)
   refine tk 2 17 (h := ?_)
   refine tk 3 18 (h := ?_)
   refine tk 4 19 (h := ?_)
   refine tk 5 20 (h := ?_)
   refine tk 6 21 (h := ?_)
   have HBz : Below W.heap.size W W.drew := (Below.refl _ _).drew
   generalize W.drew = Wd at *
   refine wpAnyH_ready (rs := [7, 11]) (by kernel_rfl) (by simp) ?_
   refine AllReadyH.cons rfl (fun K hK => ?_) (AllReadyH.cons rfl (fun K hK => ?_) AllReadyH.nil)
   ·go_simp
    refine (HC.out _ (qab HBW.out HBz)).mono ?_
    rintro e v0 ⟨rfl, hbm⟩
    go_wp2_with fail
    obtain ⟨k0, k1⟩ := cl2 hbm k0 k1
    replace HBz := qab HBz hbm
    clear hbm
    refine hK.out _ _ ⟨k0, k1⟩ (fun hHeldc0 => ?_)
    clear hK
    try simp only [Act.put, sq]
    refine tk 8 14 (h := ?_)
    refine tk 9 23 (h := ?_)
    refine tk 10 24 (h := ?_)
    refine rd1 11 (h := fun K hK => ?_)
    ·go_simp
     have hbm := qac (v0) (.cells #[.int .i64 0, .int .u64 0, .int .i64 0, .int .u64 0] 96)
     have hr0 := heap_alloc_new (v0) (.cells #[.int .i64 0, .int .u64 0, .int .i64 0, .int .u64 0] 96)
     have hg0 : W.heap.size ≤ (v0).heap.size := HBz.size
     obtain ⟨k0, k1⟩ := cl2 hbm k0 k1
     replace HBz := qab HBz hbm
     clear hbm
     refine hK.out _ _ ⟨k0, k1⟩ (fun hHelda1 => ?_)
     clear hK
     try simp only [Act.put, sq]
     generalize hva1 : (v0).alloc (.cells #[.int .i64 0, .int .u64 0, .int .i64 0, .int .u64 0] 96) = va1 at *
     generalize hka1 : (v0).heap.size = KA0 at *
     exact zP30x01
   ·go_simp
    have hbm := qac (Wd) (.cells #[.int .i64 0, .int .u64 0, .int .i64 0, .int .u64 0] 96)
    have hr0 := heap_alloc_new (Wd) (.cells #[.int .i64 0, .int .u64 0, .int .i64 0, .int .u64 0] 96)
    have hg0 : W.heap.size ≤ (Wd).heap.size := HBz.size
    obtain ⟨k0, k1⟩ := cl2 hbm k0 k1
    replace HBz := qab HBz hbm
    clear hbm
    refine hK.out _ _ ⟨k0, k1⟩ (fun hHelda0 => ?_)
    clear hK
    try simp only [Act.put, sq]
    generalize hva0 : (Wd).alloc (.cells #[.int .i64 0, .int .u64 0, .int .i64 0, .int .u64 0] 96) = va0 at *
    generalize hka0 : (Wd).heap.size = KA0 at *
    refine rd1 7 (h := fun K hK => ?_)
    ·go_simp
     refine (HC.out _ (qab HBW.out HBz)).mono ?_
     rintro e v1 ⟨rfl, hbm⟩
     go_wp2_with fail
     obtain ⟨k0, k1⟩ := cl2 hbm k0 k1
     replace hr0 := qaa hbm hr0
     replace HBz := qab HBz hbm
     clear hbm
     refine hK.out _ _ ⟨k0, k1⟩ (fun hHeldc1 => ?_)
     clear hK
     try simp only [Act.put, sq]
     refine tk 8 14 (h := ?_)
     refine tk 9 23 (h := ?_)
     refine tk 10 24 (h := ?_)
     exact zP30x01
  case rest =>
   obtain ⟨K, rfl, rfl, hB, hge, hr⟩ := hcut
   obtain ⟨q0, q1, q2, q3⟩ := TR.qca hr
   have h0' := cell_later hB h0
   have HB := Hid.mk (qab HBW.out hB)
   clear k0 k1 k0z k1z h0 h1 c2 hB HC
   by_cases hb : 1 ≤ b2
   ·have d1 : decide (1 ≤ b2) = true := decide_eq_true hb
    rw [d1]
    go_wp2
    go_quiet (fail)
    go_wp2
    go_ret2
    exact ⟨rfl, TB.qav HB.out _⟩
   ·have d1 : decide (1 ≤ b2) = false := decide_eq_false hb
    rw [d1]
    go_wp2
    go_quiet (fail)
    go_wp2
    go_ret2
    exact ⟨rfl, TB.qav HB.out _⟩
end
structure Lf where
 l : Int
 k : Int
 o : Nat
 u : Bool
 r : Bool
 x : Bool
 s : Bool
 a : Int
def Lf.cs (q : Lf) : List Value := [.int .i64 q.l, .int .i64 q.k, .int .u64 (q.o : Nat), .bool q.u, .bool q.r, .bool q.x, .bool q.s, .int .i64 q.a]
def lfR (r : Int × Int × Nat) : Lf := if r.1 = 0 then ⟨r.2.1, rdK r.2.1 r.2.2, rdO r.2.2, rdU r.2.1 r.2.2, rdR r.2.1 r.2.2, rdX r.2.1 r.2.2, rdS r.2.1 r.2.2, rdA r.2.1 r.2.2⟩ else ⟨0, 0, 0, false, false, false, false, 0⟩
def ftR (r : Int × Int × Nat) : Int × Int := if r.1 = 0 then (0, 0) else (r.1, r.2.1)
theorem leafL_cs (r : Int × Int × Nat) : qeg r = (lfR r).cs := by unfold qeg lfR; split <;> rfl
theorem faultL_cs (r : Int × Int × Nat) : qcj r = [.int .i64 (ftR r).1, .int .i64 (ftR r).2] := by unfold qcj ftR; split <;> rfl
def Lf.en (q : Lf) (I va : Nat) : TB.En := ⟨(I : Int), qbn va q.l, q.l, q.k, q.o, q.u, q.r, q.x, q.s, q.a⟩
def tkn : Int → WL → Nat
 | _, [] => 0
 | lv, p :: L => if TR.isT lv p.2 = true then tkn (lv + 1) L + 1 else 0
theorem tkn_uniq : ∀ {L : WL} {lv : Int} {k : Nat}, k ≤ L.length → (∀ j : Nat, j < k → TR.isT (lv + j) L[j]!.2 = true) → (k < L.length → TR.isT (lv + k) L[k]!.2 = false) → k = tkn lv L
 | [], lv, k, h, _, _ => by simp at h; subst h; rfl
 | p :: L, lv, 0, _, _, h2 => by
  have := h2 (Nat.succ_pos _)
  unfold tkn
  rw [if_neg]
  simpa using this
 | p :: L, lv, k + 1, h, h1, h2 => by
  have h0 := h1 0 (Nat.succ_pos _)
  unfold tkn
  rw [if_pos (by simpa using h0)]
  rw [← tkn_uniq (L := L) (lv := lv + 1) (k := k) (by simpa using h) (fun j hj => ?_) (fun hk => ?_)]
  ·have := h1 (j + 1) (by omega)
   rw [show lv + ((j + 1 : Nat) : Int) = lv + 1 + (j : Int) by omega] at this
   simpa using this
  ·have := h2 (by simpa using hk)
   rw [show lv + ((k + 1 : Nat) : Int) = lv + 1 + (k : Int) by omega] at this
   simpa using this
def wkO (S : Nat) (s : St) (R I va : Nat) (h : Hn) : WL × Int × Int × Nat := wk0 S s.f (stL s I va h) (stT s R I va h) va
def kK (S : Nat) (most : Int) (s : St) (R I va : Nat) (h : Hn) : List TR.En :=
 if h.keep = true then TR.wdL most (I : Int) va (stL s I va h) (fun j => (wkO S s R I va h).1[j]!.2) s.K (tkn (stL s I va h) (wkO S s R I va h).1) else s.K
def kE (S : Nat) (most : Int) (s : St) (R I va : Nat) (h : Hn) : List TB.En :=
 if (h.fill && (lfR (wkO S s R I va h).2).s) = true then TB.qbt s.E most ((lfR (wkO S s R I va h).2).en I va) else s.E
def wdS (S : Nat) (most : Int) (s : St) (R I va : Nat) (h : Hn) : St := { s with E := kE S most s R I va h, K := kK S most s R I va h }
theorem bst_ok (s : St) (I va : Nat) : bst s I va = TR.e0 ∨ ((bst s I va) ∈ s.K ∧ TR.mB (bst s I va) I va = true) := TR.bst_in _ _ _ (Nat.le_refl _)
theorem stL_lv {most : Int} {s : St} (h : Wf most s) (I va : Nat) (hn : Hn) : 0 ≤ stL s I va hn ∧ stL s I va hn ≤ 3 := by
 unfold stL
 split
 ·rename_i hl
  unfold isLed at hl
  rw [Bool.and_eq_true, decide_eq_true_eq] at hl
  rcases bst_ok s I va with e | ⟨e, -⟩
  ·rw [e]; exact ⟨by decide, by decide⟩
  ·have := TR.qej (h.kr _ e).2
   omega
 ·exact ⟨by decide, by decide⟩
theorem qei {most : Int} {s : St} (h : Wf most s) {R : Nat} (hR : R < 281474976710656) (I va : Nat) (hn : Hn) : stT s R I va hn < 18446744073709551616 := by
 unfold stT
 split
 ·rcases bst_ok s I va with e | ⟨e, -⟩
  ·rw [e]; decide
  ·exact (h.kr _ e).1.2
 ·omega
theorem zP30x02 {Z : Prop} (z : Z := by
 split at h
 ·rename_i hr
  split at h
  ·exact Or.inl h
  ·split at h
   ·rcases List.mem_append.1 (List.mem_of_mem_eraseIdx h) with h1 | h1
    ·exact Or.inl h1
    ·exact Or.inr ⟨List.mem_singleton.1 h1, hr⟩
   ·rcases List.mem_append.1 h with h1 | h1
    ·exact Or.inl h1
    ·exact Or.inr ⟨List.mem_singleton.1 h1, hr⟩
 ·exact Or.inl h) : Z := z
theorem memV_fill {l : List TB.En} {m : Int} {e y : TB.En} (h : y ∈ TB.qbt l m e) : y ∈ l ∨ (y = e ∧ TB.qbe e = true) := by
 unfold TB.qbt at h
 exact zP30x02
theorem lenV_fill {l : List TB.En} {most : Int} {e : TB.En} (h : (l.length : Int) ≤ most) : ((TB.qbt l most e).length : Int) ≤ most := by
 unfold TB.qbt
 split
 ·split
  ·exact h
  ·split
   ·rw [List.length_eraseIdx_of_lt (by simp)]
    simp
    omega
   ·rw [List.length_append]; simp; omega
 ·exact h
theorem nodV_fill {l : List TB.En} {most : Int} {e : TB.En} (h : l.Nodup) : (TB.qbt l most e).Nodup := by
 unfold TB.qbt
 split
 ·split
  ·exact h
  ·rename_i hm
   have h1 : (l ++ [e]).Nodup := by
    rw [List.nodup_append]
    refine ⟨h, (by simp), fun a ha b hb hab => ?_⟩
    rw [List.mem_singleton.1 hb] at hab
    exact hm (TB.qdc (hab ▸ ha))
   split
   ·exact h1.sublist (List.eraseIdx_sublist _ _)
   ·exact h1
 ·exact h
theorem okV_fill {l : List TB.En} {most : Int} {e : TB.En} (h : ∀ y ∈ l, y.ok) (he : e.ok) : ∀ y ∈ TB.qbt l most e, y.ok := fun y hy => by
 rcases memV_fill hy with h1 | ⟨h1, -⟩
 ·exact h y h1
 ·rw [h1]; exact he
theorem rtV_fill {l : List TB.En} {most : Int} {e : TB.En} (h : ∀ y ∈ l, TB.qbe y = true) : ∀ y ∈ TB.qbt l most e, TB.qbe y = true := fun y hy => by
 rcases memV_fill hy with h1 | ⟨h1, h2⟩
 ·exact h y h1
 ·rw [h1]; exact h2
theorem Wf.fill {most : Int} {s : St} (h : Wf most s) {e : TB.En} (he : e.ok) : Wf most { s with E := TB.qbt s.E most e } :=
 ⟨h.m1, h.m64, lenV_fill h.el, h.kl, rtV_fill h.er, okV_fill h.eo he, h.kr, h.rr, h.pl, h.pv, nodV_fill h.nd⟩
theorem lenR_fill {l : List TR.En} {most : Int} {e : TR.En} (h : (l.length : Int) ≤ most) : ((TR.qbt l most e).length : Int) ≤ most := by
 unfold TR.qbt
 split
 ·split
  ·exact h
  ·split
   ·rw [List.length_eraseIdx_of_lt (by simp)]
    simp
    omega
   ·rw [List.length_append]; simp; omega
 ·exact h
theorem memR_fill {l : List TR.En} {m : Int} {e y : TR.En} (h : y ∈ TR.qbt l m e) : y ∈ l ∨ (y = e ∧ TR.qbe e = true) := by
 unfold TR.qbt at h
 exact zP30x02
theorem wdL_len {most i0 : Int} {x : Nat} {lv : Int} {V : Nat → Nat} {l : List TR.En} (h : (l.length : Int) ≤ most) : ∀ k, ((TR.wdL most i0 x lv V l k).length : Int) ≤ most
 | 0 => h
 | k + 1 => by
  unfold TR.wdL
  split
  ·exact lenR_fill (wdL_len h k)
  ·exact wdL_len h k
theorem wdL_mem {most i0 : Int} {x : Nat} {lv : Int} {V : Nat → Nat} {l : List TR.En} {y : TR.En} : ∀ k, y ∈ TR.wdL most i0 x lv V l k → y ∈ l ∨ ∃ j, j < k ∧ y = TR.wdE i0 x lv V j ∧ TR.qbe y = true ∧ x < 281474976710656
 | 0, h => Or.inl h
 | k + 1, h => by
  unfold TR.wdL at h
  split at h
  ·rename_i hx
   rcases memR_fill h with h1 | ⟨h1, h2⟩
   ·rcases wdL_mem k h1 with h3 | ⟨j, hj, h3⟩
    ·exact Or.inl h3
    ·exact Or.inr ⟨j, by omega, h3⟩
   ·exact Or.inr ⟨k, by omega, h1, h1 ▸ h2, of_decide_eq_true hx⟩
  ·rcases wdL_mem k h with h3 | ⟨j, hj, h3⟩
   ·exact Or.inl h3
   ·exact Or.inr ⟨j, by omega, h3⟩
theorem Wf.mark {most : Int} {s : St} (h : Wf most s) {i0 : Int} {x : Nat} {lv : Int} {V : Nat → Nat} {k : Nat} : Wf most { s with K := TR.wdL most i0 x lv V s.K k } :=
 ⟨h.m1, h.m64, h.el, wdL_len h.kl k, h.er, h.eo, (fun e he => by
  rcases wdL_mem k he with h1 | ⟨j, -, h1, h2, -⟩
  ·exact h.kr e h1
  ·exact ⟨h1 ▸ TR.wdE_ok i0 x lv V j, h2⟩), h.rr, h.pl, h.pv, h.nd⟩
theorem lfR_o (r : Int × Int × Nat) : (lfR r).o < 18446744073709551616 := by
 unfold lfR
 split
 ·exact rdO_lt _
 ·show (0 : Nat) < 18446744073709551616
  decide
theorem en_ok (r : Int × Int × Nat) (I va : Nat) : ((lfR r).en I va).ok := ⟨by have := baseV_lt va (lfR r).l; show qbn va (lfR r).l < _; omega, lfR_o r⟩
theorem qan {w1 : World} {g t : Nat} {c0 c1 c2 : Value} (hh : w1.heap[g]? = some (.cells #[c0, c1, c2] t (0, 0))) : w1.cell? ⟨g, 0, none⟩ = some c0 ∧ w1.cell? ⟨g, 1, none⟩ = some c1 ∧ w1.cell? ⟨g, 2, none⟩ = some c2 := by
 refine ⟨?_, ?_, ?_⟩
 all_goals (rw [cell_of_row _ _ _ _ _ _ hh]; rfl)
section
variable {w0 w : World} {X XM XB XT : Nat → Prop} {x a tb tr n S : Nat} {most : Int} {s : St} {pv : Value}
theorem MchV.walked (h : MchV w0 w X XM XB XT x a tb tr n S most s pv) (I va : Nat) (hva : va < 18446744073709551616) (lv : Int) (h1 : 0 ≤ lv) (h2 : lv ≤ 3) (tb' : Nat) (p : Option Addr) (cap : Nat)
  (hp : Psl w (fun g => ¬ X g) (.slice p (wk0 S s.f lv tb' va).1.length cap) (wk0 S s.f lv tb' va).1) :
  Calls Tryz.prog 99 #[.pointer (some ⟨tr, 0, none⟩), .int .i64 I, .int .u64 va, .int .i64 lv, .slice p (wk0 S s.f lv tb' va).1.length cap] w fun r w' => (∃ k : Int, r = .returned (.int .i64 k)) ∧ Mch w0 w' (Gr X w w') x a n S most { s with K := TR.wdL most (I : Int) va lv (fun j => (wk0 S s.f lv tb' va).1[j]!.2) s.K (tkn lv (wk0 S s.f lv tb' va).1) } ∧ Turn X w w' ∧ w'.heap[x]? = w.heap[x]? := by
 have hlen := wk0_len S s.f lv tb' va
 have hmem := h.mem
 obtain ⟨mb, pg, hmm⟩ := hmem
 have hlt := TR.wk0_lt (S := S) (f := s.f) (va := va) (tb := tb') (l := lv) hmm.fl hmm.s0.2.1
 clear hmm
 generalize (wk0 S s.f lv tb' va).1 = L at *
 have hst : StepsAt w p L.length (fun j => L[j]!.1) (fun j => L[j]!.2) := by
  refine ⟨fun i hi => ?_, fun i => (hlt i).1, fun i => (hlt i).2⟩
  obtain ⟨p', cap', e, hc⟩ := hp.form
  cases e
  obtain ⟨g, rfl, hg, q1, q2⟩ := hc i hi
  exact ⟨g, 0, rfl, hg, by rw [Nat.zero_add]; exact q1, by rw [Nat.zero_add]; exact q2⟩
 have hd : TR.notIn XT p := fun b hb hX => by
  rcases hp with ⟨e, -⟩ | ⟨g, c, e, hg, -⟩
  ·simp only [Value.slice.injEq] at e
   rw [e.1] at hb; cases hb
  ·simp only [Value.slice.injEq] at e
   rw [e.1] at hb; cases hb
   exact hg (h.ct _ hX)
 refine (TR.walked_c h.trl (by have := h.wf.el9; omega) (I : Int) va hva lv (by omega) (by omega) p L.length cap _ _ (by omega) hst hd (fun W ht => (h.flds ⟨ht.os, ht.tape, ht.output, ht.size, fun i hi hX => ht.block i hi (fun c => hX (h.ct i c))⟩).t)).mono ?_
 rintro r w' ⟨k, hk, q1, q2, rfl, hB, hT⟩
 have e := tkn_uniq hk q1 q2
 subst e
 have hq := h.marked hT hB (h.wf.mark (i0 := (I : Int)) (x := va) (lv := lv) (V := fun j => L[j]!.2))
 exact ⟨⟨_, rfl⟩, hq.1, hq.2, hT.block x (h.lt x h.cx) h.dt⟩
theorem MchV.fillE (h : MchV w0 w X XM XB XT x a tb tr n S most s pv) (e : TB.En) (he : e.ok) :
  Calls Tryz.prog 100 #[.pointer (some ⟨tb, 0, none⟩), e.v] w fun r w' => (∃ k : Int, r = .returned (.int .i64 k)) ∧ Mch w0 w' (Gr X w w') x a n S most { s with E := TB.qbt s.E most e } ∧ Turn X w w' ∧ w'.heap[x]? = w.heap[x]? := by
 refine (TB.fill_c e he h.buf (by have := h.wf.el9; omega) h.fld.t.d).mono ?_
 rintro r w' ⟨rfl, hB, hT⟩
 have hq := h.filled hT hB (h.wf.fill he)
 exact ⟨⟨_, rfl⟩, hq.1, hq.2, hT.block x (h.lt x h.cx) h.db⟩
end
end Go.Proofs.YtfdbdeckohaneaaGreatDoor.MM
