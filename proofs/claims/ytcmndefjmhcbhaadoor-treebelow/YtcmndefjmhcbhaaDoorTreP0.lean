/- Lists of slots; List. -/
import Derived.Test.YtcmndefjmhcbhaaDoorTreE
import Derived.Test.YtcmndefjmhcbhaaDoorTreK
import Derived.RangeFuncNested
import Derived.RangeFuncBound
import Derived.RangeFuncCalls
import Derived.RangeFuncLeaves
import Derived.RangeFuncBox
import Derived.Shelf.Abstract
import Derived.Shelf.RegionOpen
import Derived.WalkKit
import Derived.OwnWalkIn
import Derived.TacticsInMore
import Derived.LoopNIn
import Derived.LoopIn
import Derived.Maps.AppendAt
import Derived.Test.YtcmndefjmhcbhaaDoorSq
import Derived.Deep.AppendLies

/- The slots along a way: the iterator. -/
set_option linter.unusedVariables false
namespace Go.Proofs.YtcmndefjmhcbhaaDoor
open Go.RowKit
namespace TE

attribute [local go_sem] Oper.semAt_some

/-- What an iterator tells: a slot's address, and the slot. -/
structure En where
  p : Nat
  s : Sl
def hdE : List En → Nat
  | [] => 0
  | e :: _ => e.p
def Chn (wy : Sl → Nat) : Nat → List En → Prop
  | a, [] => a = 0
  | a, e :: L => a = e.p ∧ e.p ≠ 0 ∧ Chn wy (wy e.s) L
theorem Chn.hdE {wy : Sl → Nat} {a : Nat} {L : List En} (h : Chn wy a L) : a = TE.hdE L := by
  cases L with
  | nil => exact h
  | cons e L => exact h.1
theorem Chn.drop {wy : Sl → Nat} {a : Nat} {pre rest : List En} {e : En} (h : Chn wy a (pre ++ e :: rest)) : e.p ≠ 0 ∧ wy e.s = TE.hdE rest := by
  induction pre generalizing a with
  | nil => exact ⟨h.2.1, h.2.2.hdE⟩
  | cons b pre ih => exact ih h.2.2
set_option maxHeartbeats 1000000 in
theorem onw_any (s : Sl) (w : World) : Calls Tryd.prog 43 #[.agg s.row] w fun e w' => e = .returned (.int .u64 (s.nx : Nat)) ∧ Below w.heap.size w w' := by
  have g1 := heap_alloc_new w (.cells s.row 61)
  have hB := below_new w (.cells s.row 61)
  obtain ⟨-, -, -, -, -, -, -, q7, -, -⟩ := cells10 g1
  go_enter Tryd.func43, Tryd.ntmps43
  go_upto_region 1 with fail
  (try rw [show (.agg s.row : Value).cells = s.row from rfl])
  go_wp2
  go_ret
  exact ⟨rfl, hB⟩
/-- What the iterator wants to be told: how many slots there are at most, and what the next one is. -/
def alHd (x ct : Nat) (L : List En) (pre : List En) (A : World) : Prop := A.cell? ⟨x, 2, none⟩ = some (.int .i64 (ct : Nat)) ∧ ∀ e rest, L = pre ++ e :: rest → Calls Tryd.prog 26 #[.pointer (some ⟨x, 0, none⟩), .int .u64 (e.p : Nat)] A fun r w' => r = .returned (.tuple #[.agg e.s.row, .int .i64 0]) ∧ Below A.heap.size A w'

section
variable {F : Fence} {n : Nat} {P : Program} {ops : Array Oper} {rest : List Oper} {op : Oper} {a : Act} {w : World} {Q : Exit → Act → World → Prop}
theorem wpListIn_storeSeg (hgd : op.guard = none) (ty : TypeId) (x y : Operand) (ho : op.op = .store ty x y) (hd : op.dst = none)
    (g o : Nat) (v : Value) (cells : Array Value) (hx : a.eval x = .pointer (some ⟨g, o, none⟩)) (hy : a.eval y = v) (hc : v.cells = cells)
    (t : TypeId) (cur : Array Value) (hg : w.heap[g]? = some (.cells cur t (0, 0))) (hfit : o + cells.size ≤ cur.size) (hi : (P.info? ty).map (·.size) = some cells.size) (h1 : cells.all (·.oneCell') = true)
    (new : Array Value) (hnew : segA cur o cells.toList = new)
    (h : ∀ wq, wq.heap[g]? = some (.cells new t (0, 0)) → Turn (fun i => i = g) w wq → wpListIn F n P ops Q rest a wq) : wpListIn F n P ops Q (op :: rest) a w := by
  have hst := run_storeCells_at P g o t cells.toList 0 cur w hg (by simpa using hfit) (fun v hv => (Array.all_eq_true_iff_forall_mem.1 h1) v (by simpa using hv))
  have hsv : (storeVar ty ⟨g, o, none⟩ v).run P w = .ok () (w.setRow g new) := by
    cases hq : P.info? ty with
    | none => simp [hq] at hi
    | some i =>
      have hs : cells.size = i.size := by simp [hq] at hi; omega
      simp only [Nat.add_zero] at hst
      rw [← hnew]
      simp [storeVar, sizeOf, typeInfo, hq, hc, hs, hst, segA]
  refine wpListIn_plain hgd fun K' hK' => ?_
  unfold Oper.wpIn
  refine ⟨by simp [Oper.about, ho], ?_⟩
  rw [Oper.semAt_plain F _ _ (by rw [ho]; intro c hc'; cases hc')]
  simp [execOp, ho, hx, hy, Instr.storeAt, Instr.sureAddr, hsv, Result.andThen]
  exact hK' _ _ (by rw [hd]; exact h _ (setRow_heap _ _ _ _ _ _ hg) (turn_setRow _ _ _))
end

set_option maxRecDepth 100000 in
set_option maxHeartbeats 2000000 in
theorem along_on (n : Nat) (hn : 3 ≤ n) {x bt ba bw ct a0 : Nat} {L : List En} {w : World} (hbt : w.heap[bt]? = some (.cells #[.pointer (some ⟨x, 0, none⟩)] 25 (0, 0))) (hba : w.heap[ba]? = some (.cells #[.int .u64 (a0 : Nat)] 23 (0, 0))) (hbw : w.heap[bw]? = some (.cells #[.func (.func 43) #[] #[]] 85 (0, 0)))
    (hC : Chn (fun s => s.nx) a0 L) (hct : L.length ≤ ct) (hct2 : ct < 4611686018427387904) (hwl : ∀ e ∈ L, e.p < 18446744073709551616) :
    SeqT Fence.wide n Tryd.prog 56 #[.pointer (some ⟨bt, 0, none⟩), .pointer (some ⟨ba, 0, none⟩), .pointer (some ⟨bw, 0, none⟩)] (fun e : En => #[.int .u64 (e.p : Nat), .agg e.s.row]) (fun i => i = bt ∨ i = ba ∨ i = bw) (alHd x ct L) L w := by
  intro l J Jx W Y hWs hZ hlt hab habx hHd hY h0
  have hdis : bt ≠ ba ∧ ba ≠ bw ∧ bt ≠ bw := ⟨fun e => by rw [e, hba] at hbt; simp at hbt, fun e => by rw [e, hbw] at hba; simp at hba, fun e => by rw [e, hbw] at hbt; simp at hbt⟩
  obtain ⟨zt1, zt2, zt3⟩ := hZ bt (Or.inl rfl)
  obtain ⟨za1, za2, za3⟩ := hZ ba (Or.inr (Or.inl rfl))
  obtain ⟨zw1, zw2, zw3⟩ := hZ bw (Or.inr (Or.inr rfl))
  rw [hbt] at zt2
  rw [hba] at za2
  rw [hbw] at zw2
  clear hbt hba hbw hZ
  have zt1 := Nat.lt_of_lt_of_le zt1 hWs
  have za1 := Nat.lt_of_lt_of_le za1 hWs
  have zw1 := Nat.lt_of_lt_of_le zw1 hWs
  have kc := (hHd _ _ _ h0).1
  have kt : W.cell? ⟨bt, 0, none⟩ = some (.pointer (some ⟨x, 0, none⟩)) := by rw [cell_of_row _ _ _ _ _ _ zt2]; rfl
  refine callsIn_of_wp Tryd.func56 rfl trivial ?_ rfl
  simp only [Tryd.ntmps56, List.size_toArray, List.length_cons, List.length_nil, Nat.reduceAdd, Nat.reduceSub, Array.replicate_succ, Array.replicate_zero, List.push_toArray, List.append_toArray, List.nil_append, List.cons_append]
  gi_wp2
  clear kt kc
  gi_loopw [11] (fun i wr => ∃ (pre rest : List En) (Y' : Nat → Prop), L = pre ++ rest ∧ i = .int .i64 (pre.length : Nat) ∧ J pre Y' wr ∧ (∀ i, i < W.heap.size → Y' i → Y i) ∧ Turn (fun i => Y i ∨ i = bt ∨ i = ba ∨ i = bw) W wr ∧ wr.heap[bt]? = some (.cells #[.pointer (some ⟨x, 0, none⟩)] 25 (0, 0)) ∧ wr.heap[ba]? = some (.cells #[.int .u64 (hdE rest : Nat)] 23 (0, 0)) ∧ wr.heap[bw]? = some (.cells #[.func (.func 43) #[] #[]] 85 (0, 0)))
    (fun i _ => ct - (intOf i).toNat)
  case atStart =>
    refine ⟨[], L, Y, rfl, rfl, h0, fun _ _ q => q, Turn.refl _ _, zt2, ?_, zw2⟩
    rw [za2, hC.hdE]
  case round =>
    obtain ⟨pre, rest, Y', hL, rfl, hJ, hYs, hT, rt, ra, rw'⟩ := hrel
    have kt : wr.cell? ⟨bt, 0, none⟩ = some (.pointer (some ⟨x, 0, none⟩)) := by rw [cell_of_row _ _ _ _ _ _ rt]; rfl
    have ka : wr.cell? ⟨ba, 0, none⟩ = some (.int .u64 (hdE rest : Nat)) := by rw [cell_of_row _ _ _ _ _ _ ra]; rfl
    cases rest with
    | nil =>
      have ka0 : wr.cell? ⟨ba, 0, none⟩ = some (.int .u64 0) := ka
      clear ka
      have hLe : L = pre := by rw [hL]; simp
      have HF : Hid ((∃ v, Ending.returned (.tuple #[]) = .returned v) ∧ ∃ Y2, (∀ i, i < W.heap.size → Y2 i → Y i) ∧ Turn (fun i => Y i ∨ i = bt ∨ i = ba ∨ i = bw) W wr ∧ (J L Y2 wr ∨ ∃ pre, pre <+: L ∧ Jx pre Y2 wr)) := ⟨⟨_, rfl⟩, Y', hYs, hT, Or.inl (by rw [hLe]; exact hJ)⟩
      clear hL hLe hJ hYs hT hY hHd hlt hab habx h0 hC
      by_cases hk : pre.length < ct
      · have hk2 : (pre.length : Int) < (ct : Int) := by omega
        clear hk
        gi_wp2
        refine bodyPost_ret (results_none rfl _ _ _) rfl ?_
        exact HF.out
      · have hk2 : ¬ (pre.length : Int) < (ct : Int) := by omega
        clear hk
        gi_wp2
        go_end0
        exact HF.out
    | cons e rest =>
      have hk2 : (pre.length : Int) < (ct : Int) := by
        have : L.length = pre.length + (rest.length + 1) := by rw [hL]; simp
        omega
      obtain ⟨hep0, hep1⟩ := (show Chn _ a0 (pre ++ e :: rest) from hL ▸ hC).drop
      have HP := Hid.mk hep1
      clear hep1
      have ka0 : wr.cell? ⟨ba, 0, none⟩ = some (.int .u64 (e.p : Nat)) := ka
      clear ka
      have dn : (((e.p : Nat) : Int) == 0) = false := by rw [beq_eq_false_iff_ne]; omega
      have hH := (hHd _ _ _ hJ).2 e rest hL
      have hlY := hlt _ _ _ hJ
      have hBw : bt < wr.heap.size ∧ ba < wr.heap.size ∧ bw < wr.heap.size := ⟨Nat.lt_of_lt_of_le zt1 hT.size, Nat.lt_of_lt_of_le za1 hT.size, Nat.lt_of_lt_of_le zw1 hT.size⟩
      gi_wp2_with fail
      refine ⟨trivial, fun _ => by omega, (callsIn_wide.2 hH).mono ?_⟩
      rintro r w1 ⟨rfl, hb⟩
      clear hH kt ka0
      replace rt := block_later hb rt
      replace ra := block_later hb ra
      replace rw' := block_later hb rw'
      gi_wp2_with (first
        | (refine wpListIn_storeSeg rfl 61 _ _ rfl rfl (w1.heap.size) 0 _ e.s.row rfl rfl rfl 61 _ (heap_alloc_new w1 (.cells #[.int .i64 0, .int .u64 0, .int .i64 0, .int .i64 0, .int .i64 0, .int .i64 0, .int .u64 0, .int .u64 0, .int .u64 0, .int .i64 0] 61)) (by rw [row10]; exact Nat.le_refl 10) (info10.trans (congrArg some (row10 _).symm)) (row1 _) e.s.row (segA_all _ _ (by rw [row10]; rfl)) ?_; intro wq hrq htq; have htW : Turn (fun i => wr.heap.size ≤ i) wr wq := ((turn_of_below _ hb).trans (turn_of_below _ (below_new w1 (.cells #[.int .i64 0, .int .u64 0, .int .i64 0, .int .i64 0, .int .i64 0, .int .i64 0, .int .u64 0, .int .u64 0, .int .u64 0, .int .i64 0] 61))) (fun _ _ q => q)).trans htq (fun i hi (q : i = _) => by have := hb.size; omega); have hJq := hab _ _ _ _ _ hJ htW (fun i q c => Nat.not_lt_of_le c (hlY i q)); obtain ⟨fn, tmps, assign, body, hy, hR⟩ := hY pre e rest Y' wq hL hJq; unfold Sl.row at hy; have kaq : wq.cell? ⟨ba, 0, none⟩ = some (.int .u64 (e.p : Nat)) := (by rw [cell_of_row _ _ _ _ _ _ (block_turn htq (block_later (below_new w1 _) ra) (by have := hb.size; omega))]; rfl); obtain ⟨q0, q1, q2, q3, q4, q5, q6, q7, q8, q9⟩ := cells10 hrq)
        | fail)
      refine ⟨fun _ => by omega, hR.mono ?_⟩
      clear hy hR kaq q0 q1 q2 q3 q4 q5 q6 q7 q8 q9
      rintro r W3 ⟨Y2, tY, sY, (⟨rfl, hJ3⟩ | ⟨rfl, hJx3⟩)⟩
      all_goals
        have hTq : Turn (fun i => Y i ∨ i = bt ∨ i = ba ∨ i = bw) W W3 := (hT.trans htW (fun i hi (q : wr.heap.size ≤ i) => by have := hT.size; omega)).trans tY (fun i hi q => Or.inl (hYs i hi q))
        have hYs2 : ∀ i, i < W.heap.size → Y2 i → Y i := fun i hi q => hYs i hi (sY i (Nat.lt_of_lt_of_le hi (Nat.le_trans hT.size htW.size)) q)
      · have nY : ∀ i, i = bt ∨ i = ba ∨ i = bw → ¬ Y' i := fun i c q => by
          rcases c with c | c | c <;> subst c
          · exact zt3 (hYs _ zt1 q)
          · exact za3 (hYs _ za1 q)
          · exact zw3 (hYs _ zw1 q)
        have hn1 := hBw.1
        have hn2 := hBw.2.1
        have hn3 := hBw.2.2
        have hbs := hb.size
        replace rt := turn_row tY (block_turn htq (block_later (below_new w1 _) rt) (by omega)) (nY _ (Or.inl rfl))
        replace ra := turn_row tY (block_turn htq (block_later (below_new w1 _) ra) (by omega)) (nY _ (Or.inr (Or.inl rfl)))
        replace rw' := turn_row tY (block_turn htq (block_later (below_new w1 _) rw') (by omega)) (nY _ (Or.inr (Or.inr rfl)))
        have gT := turn_row tY hrq (fun q => by have := hlY _ q; omega)
        have hJl := hlt _ _ _ hJ3
        have nY2 : ∀ i, i = ba → ¬ Y2 i := fun i c q => za3 (c ▸ hYs2 i (c ▸ za1) q)
        have kw : W3.cell? ⟨bw, 0, none⟩ = some (.func (.func 43) #[] #[]) := by rw [cell_of_row _ _ _ _ _ _ rw']; rfl
        obtain ⟨q0, q1, q2, q3, q4, q5, q6, q7, q8, q9⟩ := cells10 gT
        have hO := onw_any e.s W3
        replace hO := (show (e.s.nx : Nat) = hdE rest from HP.out) ▸ hO
        have hba := hdis.1
        have hbw2 := hdis.2.1
        gi_wp2_with fail
        refine ⟨trivial, fun _ => by omega, (callsIn_wide.2 hO).mono ?_⟩
        clear q0 q1 q2 q3 q4 q5 q6 q7 q8 q9 kw hO gT
        rintro r W4 ⟨rfl, hb4⟩
        replace rt := block_later hb4 rt
        replace ra := block_later hb4 ra
        replace rw' := block_later hb4 rw'
        have hw1 : IntKind.i64.wrap ((pre.length : Int) + 1) = ((pre.length + 1 : Nat) : Int) := by rw [IntKind.wrap_i64] <;> omega
        have hw2 : wrap64 ((pre.length : Int) + 1) = ((pre.length + 1 : Nat) : Int) := by unfold wrap64; omega
        gi_wp2_with (first
          | (refine wpListIn_storeSeg rfl 23 _ _ rfl rfl ba 0 _ #[.int .u64 (hdE rest : Nat)] rfl rfl rfl 23 _ ra (show 0 + 1 ≤ 1 by decide) info1u (by simp [Value.oneCell']) #[.int .u64 (hdE rest : Nat)] rfl ?_; intro wz hrz htz)
          | fail)
        have hJ5 := hab _ _ _ _ _ (hab _ _ (fun _ => False) _ _ hJ3 (turn_of_below _ hb4) (fun _ _ q => q)) htz (fun i q c => nY2 i c q)
        go_roundw
        case rel =>
          refine ⟨pre ++ [e], rest, Y2, by rw [hL]; simp, ?_, hJ5, hYs2, (hTq.trans (turn_of_below (fun _ => False) hb4) (fun _ _ q => absurd q id)).trans htz (fun i hi q => Or.inr (Or.inr (Or.inl q))), block_turn htz rt (by omega), hrz, block_turn htz rw' (by omega)⟩
          first
            | (simp; done)
            | (simp; omega)
        case measure =>
          have hk3 : pre.length < ct := Int.ofNat_lt.1 hk2
          have hm : ct - (pre.length + 1) < ct - pre.length := Nat.sub_lt_sub_left hk3 (Nat.lt_succ_self _)
          first
            | exact hm
            | (simpa [intOf] using hm)
      · gi_wp2
        refine bodyPost_ret (results_none rfl _ _ _) rfl ?_
        exact ⟨⟨_, rfl⟩, Y2, hYs2, hTq, Or.inr ⟨pre ++ [e], ⟨rest, by rw [hL]; simp⟩, hJx3⟩⟩
end TE
end Go.Proofs.YtcmndefjmhcbhaaDoor

/- The slots below one: the iterator. -/
set_option linter.unusedVariables false
namespace Go.Proofs.YtcmndefjmhcbhaaDoor
open Go.RowKit
namespace TE

attribute [local go_sem] Oper.semAt_some

theorem round_any {m m' : Nat} {P : Program} {l l' : Nat} {f : FuncId} {tmps : Array Value} {assign body : Code} {w : World} {R : Ending → World → Prop} (h : RoundIn Fence.wide m P l f tmps assign body w R) : RoundIn (Fence.wide.inRound l') m' P l f tmps assign body w R := ⟨trivial, fun c cs _ => h.2 c cs (room_wide _)⟩
set_option maxHeartbeats 1000000 in
theorem along_c (x a0 : Nat) (w : World) : Calls Tryd.prog 42 #[.pointer (some ⟨x, 0, none⟩), .int .u64 (a0 : Nat), .func (.func 43) #[] #[]] w fun e w' =>
    e = .returned (.func (.func 56) #[] #[.pointer (some ⟨w.heap.size, 0, none⟩), .pointer (some ⟨w.heap.size + 1, 0, none⟩), .pointer (some ⟨w.heap.size + 1 + 1, 0, none⟩)]) ∧ w'.heap[w.heap.size]? = some (.cells #[.pointer (some ⟨x, 0, none⟩)] 25 (0, 0)) ∧ w'.heap[w.heap.size + 1]? = some (.cells #[.int .u64 (a0 : Nat)] 23 (0, 0)) ∧ w'.heap[w.heap.size + 1 + 1]? = some (.cells #[.func (.func 43) #[] #[]] 85 (0, 0)) ∧ Below w.heap.size w w' := by
  obtain ⟨W0, eW, g1, g2, g3, hB, hsz⟩ := hp3 w (.cells #[.pointer (some ⟨x, 0, none⟩)] 25) (.cells #[.int .u64 (a0 : Nat)] 23) (.cells #[.func (.func 43) #[] #[]] 85)
  go_enter Tryd.func42, Tryd.ntmps42
  go_wp2
  (try rw [eW])
  go_ret
  exact ⟨rfl, g1, g2, g3, hB⟩
set_option maxHeartbeats 1000000 in
theorem below_c (x y : Nat) (w : World) : Calls Tryd.prog 30 #[.pointer (some ⟨x, 0, none⟩), .int .u64 (y : Nat)] w fun e w' =>
    e = .returned (.func (.func 51) #[] #[.pointer (some ⟨w.heap.size, 0, none⟩), .pointer (some ⟨w.heap.size + 1, 0, none⟩)]) ∧ w'.heap[w.heap.size]? = some (.cells #[.pointer (some ⟨x, 0, none⟩)] 25 (0, 0)) ∧ w'.heap[w.heap.size + 1]? = some (.cells #[.int .u64 (y : Nat)] 23 (0, 0)) ∧ Below w.heap.size w w' := by
  obtain ⟨W0, eW, g1, g2, hB, hsz⟩ := hp2 w (.cells #[.pointer (some ⟨x, 0, none⟩)] 25) (.cells #[.int .u64 (y : Nat)] 23)
  go_enter Tryd.func30, Tryd.ntmps30
  go_wp2
  (try rw [eW])
  go_ret
  exact ⟨rfl, g1, g2, hB⟩

/-- What the iterator wants to be told. -/
def blHd (x ct y : Nat) (V : Array Value) (E : Int) (LB pre : List En) (A : World) : Prop := alHd x ct LB pre A ∧ Calls Tryd.prog 26 #[.pointer (some ⟨x, 0, none⟩), .int .u64 (y : Nat)] A fun r w' => r = .returned (.tuple #[.agg V, .int .i64 E]) ∧ Below A.heap.size A w'
def BI (J : List En → (Nat → Prop) → World → Prop) (Lb : List En) (b3 b4 l : Nat) (s : Sl) (pre : List En) (Yt : Nat → Prop) (W : World) : Prop :=
  ∃ Y, (∀ i, Yt i ↔ Y i ∨ i = b3 ∨ i = b4) ∧ ¬ Y b3 ∧ ¬ Y b4 ∧ pre <+: Lb ∧ J pre Y W ∧ W.heap[b3]? = some (.cells #[.func (.yield l) #[] #[]] 44 (0, 0)) ∧ W.heap[b4]? = some (.cells s.row 61 (0, 0))
def BX (J Jx : List En → (Nat → Prop) → World → Prop) (Lb : List En) (b3 b4 : Nat) (c : Code) (_ : List En) (Yt : Nat → Prop) (W : World) : Prop :=
  c = .ret ∧ ∃ Y, (∀ i, Yt i ↔ Y i ∨ i = b3 ∨ i = b4) ∧ (J Lb Y W ∨ ∃ q, q <+: Lb ∧ Jx q Y W)

theorem be_end {W W0 w2 W' : World} {Y Y1 Yt Z0 : Nat → Prop} {b4 D A : Nat} {p : World → Prop} (hT2 : Turn (fun i => W0.heap.size ≤ i) W0 w2) (h1 : W.heap.size < W0.heap.size) (h2 : W0.heap.size ≤ b4) (h3 : W.heap.size ≤ A)
    (hY0 : ∀ i, Y i → i < W.heap.size) (e1 : ∀ i, Yt i ↔ Y1 i ∨ i = W.heap.size ∨ i = b4) (hab : ∀ (Z : Nat → Prop) (A C : World), p A → Turn Z A C → (∀ i, Y1 i → ¬ Z i) → p C) (hJ : p W') (nD : ¬ Yt D)
    (hYs : ∀ i, i < w2.heap.size → Yt i → (Y i ∨ i = W.heap.size ∨ i = b4)) (ht : Turn (fun i => (Y i ∨ i = W.heap.size ∨ i = b4) ∨ (i = A ∨ i = A + 1 ∨ i = A + 1 + 1)) w2 W') (hD : w2.heap.size ≤ D) (hB : Below W.heap.size W W0) (hA : A ≤ w2.heap.size) :
    (∀ i, i < W.heap.size → Y1 i → Y i) ∧ Turn (fun i => Y i ∨ Z0 i) W (W'.putObj D (.deferred none)) ∧ p (W'.putObj D (.deferred none)) := by
  have hs := hT2.size
  refine ⟨fun i hi q => ?_, ?_, hab _ _ _ hJ (turn_putObj W' D _) (fun i q (c : i = D) => nD (c ▸ (e1 i).2 (Or.inl q)))⟩
  · rcases hYs i (by omega) ((e1 i).2 (Or.inl q)) with c | c | c
    · exact c
    · omega
    · omega
  · refine ((((Turn.refl _ W).trans (turn_of_below (fun _ => False) hB) (fun _ _ q => absurd q id)).trans hT2 (fun i hi (q : W0.heap.size ≤ i) => ?_)).trans ht (fun i hi q => ?_)).trans (turn_putObj W' D _) (fun i hi (q : i = D) => ?_)
    · omega
    · rcases q with (q | q | q) | q
      · exact Or.inl q
      · omega
      · omega
      · omega
    · omega

set_option maxRecDepth 100000 in
set_option maxHeartbeats 4000000 in
theorem bel_seq (n : Nat) (hn : 8 ≤ n) {x bt ba ct y : Nat} {s : Sl} {LB Lb R : List En} {w : World} (hbt : w.heap[bt]? = some (.cells #[.pointer (some ⟨x, 0, none⟩)] 25 (0, 0))) (hba : w.heap[ba]? = some (.cells #[.int .u64 (y : Nat)] 23 (0, 0)))
    (hL : LB = Lb ++ R) (hd1 : ∀ e ∈ Lb, s.d < e.s.d) (hd2 : ∀ e R', R = e :: R' → e.s.d ≤ s.d) (hC : Chn (fun s => s.nx) s.nx LB) (hct : LB.length ≤ ct) (hct2 : ct < 4611686018427387904) (hwl : ∀ e ∈ LB, e.p < 18446744073709551616) :
    SeqT Fence.wide n Tryd.prog 51 #[.pointer (some ⟨bt, 0, none⟩), .pointer (some ⟨ba, 0, none⟩)] (fun e : En => #[.int .u64 (e.p : Nat)]) (fun i => i = bt ∨ i = ba) (blHd x ct y s.row 0 LB) Lb w := by
  intro l J Jx W Y hWs hZ hlt hab habx hHd hY h0
  obtain ⟨zt1, zt2, zt3⟩ := hZ bt (Or.inl rfl)
  obtain ⟨za1, za2, za3⟩ := hZ ba (Or.inr rfl)
  rw [hbt] at zt2
  rw [hba] at za2
  clear hbt hba hZ
  replace zt1 := Nat.lt_of_lt_of_le zt1 hWs
  replace za1 := Nat.lt_of_lt_of_le za1 hWs
  have hY0 := hlt _ _ _ h0
  have g3 := heap_alloc_new W (.cells #[.func (.yield l) #[] #[]] 44)
  have hB := below_new W (.cells #[.func (.yield l) #[] #[]] 44)
  generalize eW : W.alloc (.cells #[.func (.yield l) #[] #[]] 44) = W0 at *
  have kt : W0.cell? ⟨bt, 0, none⟩ = some (.pointer (some ⟨x, 0, none⟩)) := by rw [cell_of_row _ _ _ _ _ _ (block_later hB zt2)]; rfl
  have ka : W0.cell? ⟨ba, 0, none⟩ = some (.int .u64 (y : Nat)) := by rw [cell_of_row _ _ _ _ _ _ (block_later hB za2)]; rfl
  have J0 : J [] Y W0 := hab _ _ (fun _ => False) _ _ h0 (turn_of_below _ hB) (fun _ _ q => q)
  have hH := (hHd _ _ _ J0).2
  refine callsIn_of_wp_marks Tryd.func51 rfl trivial ?_ rfl
  simp only [Tryd.ntmps51, List.size_toArray, List.length_cons, List.length_nil, Nat.reduceAdd, Nat.reduceSub, Array.replicate_succ, Array.replicate_zero, List.push_toArray, List.append_toArray, List.nil_append, List.cons_append]
  gi_wp2_with fail
  (try rw [eW])
  refine ⟨trivial, fun _ => by omega, (callsIn_wide.2 hH).mono ?_⟩
  clear hH kt ka
  rintro r w1 ⟨rfl, hb⟩
  have hb3 := block_lt g3
  gi_wp2_with (first
    | (refine wpListIn_storeSeg rfl 61 _ _ rfl rfl (w1.heap.size) 0 _ s.row rfl rfl rfl 61 _ (heap_alloc_new w1 (.cells #[.int .i64 0, .int .u64 0, .int .i64 0, .int .i64 0, .int .i64 0, .int .i64 0, .int .u64 0, .int .u64 0, .int .u64 0, .int .i64 0] 61)) (by rw [row10]; exact Nat.le_refl 10) (info10.trans (congrArg some (row10 _).symm)) (row1 _) s.row (segA_all _ _ (by rw [row10]; rfl)) ?_; intro wq hrq htq; have htW : Turn (fun i => W0.heap.size ≤ i) W0 wq := ((turn_of_below _ hb).trans (turn_of_below _ (below_new w1 (.cells #[.int .i64 0, .int .u64 0, .int .i64 0, .int .i64 0, .int .i64 0, .int .i64 0, .int .u64 0, .int .u64 0, .int .u64 0, .int .i64 0] 61))) (fun _ _ q => q)).trans htq (fun i hi (q : i = _) => by have := hb.size; omega); have kt : wq.cell? ⟨bt, 0, none⟩ = some (.pointer (some ⟨x, 0, none⟩)) := (by rw [cell_of_row _ _ _ _ _ _ (turn_row htW (block_later hB zt2) (fun c => by have := hB.size; omega))]; rfl); obtain ⟨q0, q1, q2, q3, q4, q5, q6, q7, q8, q9⟩ := cells10 hrq)
    | fail)
  refine ⟨trivial, fun _ => by omega, (callsIn_wide.2 (along_c x s.nx _)).mono ?_⟩
  clear q0 q1 q2 q3 q4 q5 q6 q7 q8 q9 kt
  rintro r w2 ⟨rfl, r1, r2, r3, hb2⟩
  have hT2 : Turn (fun i => W0.heap.size ≤ i) W0 w2 := htW.trans (turn_of_below (fun _ => False) hb2) (fun _ _ q => absurd q id)
  have g32 := block_later hb2 (turn_row htW g3 (fun c => Nat.not_lt_of_le c hb3))
  have g42 := block_later hb2 hrq
  have hq4 := block_lt hrq
  have hb4 : W0.heap.size ≤ w1.heap.size := hb.size
  have hs0 : W.heap.size < W0.heap.size := hb3
  have J2 : J [] Y w2 := hab _ _ _ _ _ J0 hT2 (fun i q c => by have := hY0 i q; omega)
  have hsq : wq.heap.size ≤ w2.heap.size := hb2.size
  have hl3 := block_lt r3
  clear J0
  gi_wp2_with fail
  have hNb : ∀ i, i = W.heap.size ∨ i = w1.heap.size → ¬ Y i := fun i c q => by have := hY0 i q; omega
  refine rf_law rfl (by omega) (gf := 56) (lb := #[.pointer (some ⟨wq.heap.size, 0, none⟩), .pointer (some ⟨wq.heap.size + 1, 0, none⟩), .pointer (some ⟨wq.heap.size + 1 + 1, 0, none⟩)]) rfl trivial (enters_of Tryd.func56 (by kernel_rfl) rfl)
    (along_on (n - 1) (by omega) r1 r2 r3 hC hct hct2 hwl) (fun _ => rfl) (BI J Lb W.heap.size w1.heap.size l s) (BX J Jx Lb W.heap.size w1.heap.size)
    ?hlt ?hI ?hIx ?hHd (fun i => Y i ∨ i = W.heap.size ∨ i = w1.heap.size) ?h0 ?hZ ?hround ?hdone ?hstop
  case hlt =>
    rintro pre Yt A ⟨Y1, e1, -, -, -, hJ, k3, k4⟩ i q
    rcases (e1 i).1 q with c | c | c
    · exact hlt _ _ _ hJ i c
    · rw [c]; exact block_lt k3
    · rw [c]; exact block_lt k4
  case hI =>
    rintro pre Yt Z A C ⟨Y1, e1, n3, n4, hp, hJ, k3, k4⟩ ht hd
    exact ⟨Y1, e1, n3, n4, hp, hab _ _ _ _ _ hJ ht (fun i q => hd i ((e1 i).2 (Or.inl q))), turn_row ht k3 (hd _ ((e1 _).2 (Or.inr (Or.inl rfl)))), turn_row ht k4 (hd _ ((e1 _).2 (Or.inr (Or.inr rfl))))⟩
  case hIx =>
    rintro c pre Yt Z A C ⟨hc, Y1, e1, hJ⟩ ht hd
    refine ⟨hc, Y1, e1, ?_⟩
    rcases hJ with hJ | ⟨q, hq, hJ⟩
    · exact Or.inl (hab _ _ _ _ _ hJ ht (fun i q => hd i ((e1 i).2 (Or.inl q))))
    · exact Or.inr ⟨q, hq, habx _ _ _ _ _ hJ ht (fun i q => hd i ((e1 i).2 (Or.inl q)))⟩
  case hHd =>
    rintro pre Yt A ⟨Y1, e1, n3, n4, hp, hJ, k3, k4⟩
    exact (hHd _ _ _ hJ).1
  case h0 => exact ⟨Y, fun _ => Iff.rfl, hNb _ (Or.inl rfl), hNb _ (Or.inr rfl), List.nil_prefix, J2, g32, g42⟩
  case hZ =>
    rintro i (c | c | c) <;> refine ⟨by omega, ?_⟩ <;> rintro (q | q | q)
    all_goals first
      | omega
      | (have := hY0 i q; omega)
  case hround =>
    rintro l' sz pre e rest Yt W' hLe ⟨Y1, e1, n3, n4, hp, hJ, k3, k4⟩ hsz hl' nl'
    subst hsz
    have hk4 := block_lt k4
    have hk3 := block_lt k3
    gi_wp2_with (first
      | (refine wpListIn_storeSeg rfl 61 _ _ rfl rfl (W'.heap.size) 0 _ e.s.row rfl rfl rfl 61 _ (heap_alloc_new W' (.cells #[.int .i64 0, .int .u64 0, .int .i64 0, .int .i64 0, .int .i64 0, .int .i64 0, .int .u64 0, .int .u64 0, .int .u64 0, .int .i64 0] 61)) (by rw [row10]; exact Nat.le_refl 10) (info10.trans (congrArg some (row10 _).symm)) (row1 _) e.s.row (segA_all _ _ (by rw [row10]; rfl)) ?_; intro wz hrz htz)
      | fail)
    have hBz : Below W'.heap.size W' wz := below_turn (below_new W' (.cells #[.int .i64 0, .int .u64 0, .int .i64 0, .int .i64 0, .int .i64 0, .int .i64 0, .int .u64 0, .int .u64 0, .int .u64 0, .int .i64 0] 61)) htz (Nat.le_refl _)
    refine ⟨hBz, fun W2 ht hI2 => ?_⟩
    obtain ⟨Y2, f1, m3, m4, -, hJ2, i3, i4⟩ := hI2
    have i5 := block_turn ht hrz (by omega)
    have hsz2 : W'.heap.size ≤ W2.heap.size := Nat.le_trans hBz.size ht.size
    obtain ⟨-, -, -, -, -, -, -, -, -, q9⟩ := cells10 i5
    obtain ⟨-, -, -, -, -, -, -, -, -, p9⟩ := cells10 i4
    by_cases hpe : pre = Lb
    · have hle : (e.s.d : Int) ≤ (s.d : Int) := by
        have := hd2 e rest (by subst hpe; exact List.append_cancel_left (hL.symm.trans hLe))
        omega
      have HX : Hid (BX J Jx Lb W.heap.size w1.heap.size .ret (pre ++ [e]) Yt W2) := ⟨rfl, Y2, f1, Or.inl (hpe ▸ hJ2)⟩
      gi_wp2
      refine ⟨fun _ h => (by cases h), ?_⟩
      gi_wp2
      exact ⟨Yt, Turn.refl _ _, fun _ _ q => q, HX.out⟩
    · obtain ⟨t, ht1⟩ := hp
      cases t with
      | nil => exact absurd (by simpa using ht1) hpe
      | cons e2 t =>
        have he2 : e2 = e ∧ t ++ R = rest := by
          rw [hL, ← ht1] at hLe
          simp at hLe
          exact ⟨hLe.1, hLe.2⟩
        obtain ⟨rfl, -⟩ := he2
        have hgt : ¬ (e2.s.d : Int) ≤ (s.d : Int) := by
          have := hd1 e2 (by rw [← ht1]; simp)
          omega
        have k30 : W2.cell? ⟨W.heap.size, 0, none⟩ = some (.func (.yield l) #[] #[]) := by rw [cell_of_row _ _ _ _ _ _ i3]; rfl
        obtain ⟨fn, tmps, assign, body, hy, hR⟩ := hY pre e2 t Y2 W2 ht1.symm hJ2
        have hlY := hlt _ _ _ hJ2
        gi_wp2_with fail
        refine ⟨fun h => (by cases h), (round_any hR).mono ?_⟩
        clear hy hR k30 q9 p9
        rintro r W3 ⟨Y3, tY, sY, (⟨rfl, hJ3⟩ | ⟨rfl, hJx3⟩)⟩
        · have HN : Hid (∃ Y4, Turn (fun i => Yt i ∨ W'.heap.size ≤ i) W2 W3 ∧ (∀ i, i < W'.heap.size → Y4 i → Yt i) ∧ BI J Lb W.heap.size w1.heap.size l s (pre ++ [e2]) Y4 W3) := by
            refine ⟨fun i => Y3 i ∨ i = W.heap.size ∨ i = w1.heap.size, (Turn.refl _ _).trans tY (fun i _ q => Or.inl ((f1 i).2 (Or.inl q))), fun i hi q => (f1 i).2 ?_, Y3, fun _ => Iff.rfl, fun q => m3 (sY _ (Nat.lt_of_lt_of_le hk3 hsz2) q), fun q => m4 (sY _ (Nat.lt_of_lt_of_le hk4 hsz2) q), ⟨t, by rw [← ht1]; simp⟩, hJ3, turn_row tY i3 m3, turn_row tY i4 m4⟩
            rcases q with q | q
            · exact Or.inl (sY i (Nat.lt_of_lt_of_le hi hsz2) q)
            · exact Or.inr q
          gi_wp2
          exact HN.out
        · have HN : Hid (∃ Y4, Turn (fun i => Yt i ∨ W'.heap.size ≤ i) W2 W3 ∧ (∀ i, i < W'.heap.size → Y4 i → Yt i) ∧ BX J Jx Lb W.heap.size w1.heap.size .ret (pre ++ [e2]) Y4 W3) := by
            refine ⟨fun i => Y3 i ∨ i = W.heap.size ∨ i = w1.heap.size, (Turn.refl _ _).trans tY (fun i _ q => Or.inl ((f1 i).2 (Or.inl q))), fun i hi q => (f1 i).2 ?_, rfl, Y3, fun _ => Iff.rfl, Or.inr ⟨pre ++ [e2], ⟨t, by rw [← ht1]; simp⟩, hJx3⟩⟩
            rcases q with q | q
            · exact Or.inl (sY i (Nat.lt_of_lt_of_le hi hsz2) q)
            · exact Or.inr q
          gi_wp2
          exact HN.out
  case hdone =>
    rintro D Yt W' hD ⟨Y1, e1, n3, n4, hp, hJ, k3, k4⟩ nD hYs ht hK
    have hLb : LB = Lb := by
      obtain ⟨t, ht1⟩ := hp
      rw [hL] at ht1 ⊢
      simp at ht1
      simp [ht1]
    have HN := be_end (Z0 := fun i => i = bt ∨ i = ba) (hT2.trans (turn_of_below (fun _ => False) (Below.refl _ _)) (fun _ _ q => absurd q id)) (by omega) (by omega) (by omega) hY0 e1 (fun Z A C q => hab _ _ Z A C q) (hLb ▸ hJ) nD hYs ht hD hB hsq
    gi_wp2
    refine ⟨by simp, .inl ⟨_, _, rfl, run_takeDeferred hK, ?_⟩⟩
    exact ⟨_, results_none rfl _ _ _, ⟨_, rfl⟩, Y1, HN.1, HN.2.1, Or.inl HN.2.2⟩
  case hstop =>
    rintro D c pre Yt W' hD hpre ⟨rfl, Y1, e1, hJ⟩ nD hYs ht hK
    gi_wp2
    refine ⟨by simp, .inl ⟨_, _, rfl, run_takeDeferred hK, ?_⟩⟩
    rcases hJ with hJ | ⟨q, hq, hJ⟩
    · have HN := be_end (Z0 := fun i => i = bt ∨ i = ba) (hT2.trans (turn_of_below (fun _ => False) (Below.refl _ _)) (fun _ _ q => absurd q id)) (by omega) (by omega) (by omega) hY0 e1 (fun Z A C q => hab _ _ Z A C q) hJ nD hYs ht hD hB hsq
      exact ⟨_, results_none rfl _ _ _, ⟨_, rfl⟩, Y1, HN.1, HN.2.1, Or.inl HN.2.2⟩
    · have HN := be_end (Z0 := fun i => i = bt ∨ i = ba) (hT2.trans (turn_of_below (fun _ => False) (Below.refl _ _)) (fun _ _ q => absurd q id)) (by omega) (by omega) (by omega) hY0 e1 (fun Z A C q => habx _ _ Z A C q) hJ nD hYs ht hD hB hsq
      exact ⟨_, results_none rfl _ _ _, ⟨_, rfl⟩, Y1, HN.1, HN.2.1, Or.inr ⟨_, hq, HN.2.2⟩⟩
end TE
end Go.Proofs.YtcmndefjmhcbhaaDoor

set_option linter.unusedVariables false
namespace Go.Proofs.YtcmndefjmhcbhaaDoor
open Go.RowKit
namespace TE

attribute [local go_sem] Oper.semAt_some

def ens : Nat → List Nd → Nat → List En
  | _, [], _ => []
  | p, n :: L, q => ⟨n.p, ⟨n.c, hd L q, p, n.d⟩⟩ :: ens n.p L q
theorem ens_len (p : Nat) (L : List Nd) (q : Nat) : (ens p L q).length = L.length := by
  induction L generalizing p with
  | nil => rfl
  | cons n L ih => show (ens n.p L q).length + 1 = _; rw [ih]; rfl
theorem ens_ps (p : Nat) (L : List Nd) (q : Nat) : (ens p L q).map (·.p) = ps L := by
  induction L generalizing p with
  | nil => rfl
  | cons n L ih => show n.p :: (ens n.p L q).map (·.p) = n.p :: ps L; rw [ih]
theorem ens_mem {p : Nat} {L : List Nd} {q : Nat} {e : En} (h : e ∈ ens p L q) (hn : (ps L).Nodup) : e.p ∈ ps L ∧ sg p L q e.p = some e.s := by
  induction L generalizing p with
  | nil => cases h
  | cons n L ih =>
    rcases List.mem_cons.1 h with c | c
    · subst c
      exact ⟨List.mem_cons_self .., by rw [sg_cons, if_pos rfl]⟩
    · obtain ⟨h1, h2⟩ := ih c (List.nodup_cons.1 hn).2
      refine ⟨List.mem_cons_of_mem _ h1, ?_⟩
      rw [sg_cons, if_neg (fun (e2 : e.p = n.p) => (List.nodup_cons.1 hn).1 (by have := h1; rw [e2] at this; exact this))]
      exact h2
theorem ens_chn (p : Nat) {L : List Nd} (h : 0 ∉ ps L) : Chn (fun s => s.nx) (hd L 0) (ens p L 0) := by
  induction L generalizing p with
  | nil => rfl
  | cons n L ih =>
    refine ⟨rfl, fun c => h (List.mem_cons.2 (Or.inl c.symm)), ?_⟩
    exact ih n.p (fun c => h (List.mem_cons_of_mem _ c))
theorem TrS.al {w0 W : World} {O : Nat → Prop} {x ad S n : Nat} {g : Nat → Nat} {σ : Nat → Option Sl} {fs ct : Nat} (h : TrS w0 W O x ad S n g σ fs ct) {LE : List En} (hE : ∀ e ∈ LE, σ e.p = some e.s) (pre : List En) : alHd x ct LE pre W := by
  refine ⟨h.c2, fun e rest hL => ?_⟩
  exact held_ok h (hE e (by rw [hL]; simp))

/-- The blocks that a tree's reader counts on. -/
def Ob (w0 : World) (O : Nat → Prop) : Nat → Prop := fun i => i < w0.heap.size ∨ O i
theorem TrS.same {w0 W : World} {O : Nat → Prop} {x ad S n : Nat} {g : Nat → Nat} {σ : Nat → Option Sl} {fs ct : Nat} (h : TrS w0 W O x ad S n g σ fs ct) {W' : World} (ht : Turn (fun i => ¬ Ob w0 O i) W W') : TrS w0 W' O x ad S n g σ fs ct :=
  h.turn ht (fun i q c => c (Or.inr q)) (fun i c => Nat.le_of_not_lt fun q => c (Or.inl q))
theorem TrS.oblt {w0 W : World} {O : Nat → Prop} {x ad S n : Nat} {g : Nat → Nat} {σ : Nat → Option Sl} {fs ct : Nat} (h : TrS w0 W O x ad S n g σ fs ct) : ∀ i, Ob w0 O i → i < W.heap.size := fun i q => by
  rcases q with q | q
  · exact Nat.lt_of_lt_of_le q h.hb.size
  · exact h.olt i q

theorem rows_block {w w' : World} {base E sz N : Nat} {v : Value} {xs : List Value} (h : w.ownsRow base E sz v N xs) (hb : ∀ g, v.ownBlock = some g → w'.heap[g]? = w.heap[g]?) : w'.ownsRow base E sz v N xs := by
  rcases h with ⟨h1, h2⟩
  refine ⟨h1, ?_⟩
  rcases h2 with h2 | ⟨g, cap, cur, rfl, hbg, hg, r⟩
  · exact Or.inl h2
  · exact Or.inr ⟨g, cap, cur, rfl, hbg, (hb g rfl).trans hg, r⟩
theorem rows_low {b base E sz N : Nat} {w : World} {v : Value} {xs : List Value} (hb : b ≤ base) (h : w.ownsRow base E sz v N xs) : w.ownsRow b E sz v N xs := by
  rcases h with ⟨h1, h2⟩
  refine ⟨h1, ?_⟩
  rcases h2 with h2 | ⟨g, cap, cur, rfl, hbg, hg, r⟩
  · exact Or.inl h2
  · exact Or.inr ⟨g, cap, cur, rfl, Nat.le_trans hb hbg, hg, r⟩
theorem grown_turn {W w1 : World} {tmp : Obj} {v : Value} (h : (W.alloc tmp).grownBy w1 v.ownBlock) : Turn (fun i => v.ownBlock = some i) W w1 := by
  refine (turn_of_below _ (below_new W tmp)).trans (Y := fun i => v.ownBlock = some i) ⟨h.os, h.tape, h.output, h.size, fun i hi q => h.block i hi (fun e => q e.symm)⟩ (fun _ _ q => q)
theorem wpListIn_app {F : Fence} {n : Nat} {P : Program} (w : World) {ops : Array Oper} {rest : List Oper} {o : Oper} {a : Act} {Q : Exit → Act → World → Prop}
    (hgd : o.guard = none) (s x : Operand) (t : TypeId) (hop : o.op = .call { callee := .builtin .append, args := #[s, x], argTypes := #[t, t] })
    (base : Nat) (e : TypeId) (i : TypeInfo) (z : Value) (size bytes : Nat) (ht : P.underlying t = some (.slice e)) (hi : P.info? e = some i) (hz : i.zero = some z)
    (hsize : i.size = size) (hby : i.bytes = bytes) (hzs : z.cells.size = size) (hsz : 0 < size)
    (v : Value) (k : Nat) (xs : List Value) (hs : a.eval s = v) (hown : w.ownsRow base e size v k xs)
    (ad : Addr) (m c : Nat) (news : List Value) (hx : a.eval x = .slice (some ad) m c) (hl : news.length = m * size) (hnews : ∀ j u, news[j]? = some u → w.cell? (ad.add j) = some u) (h1 : ∀ u ∈ news, u.oneCell' = true)
    (hm : 0 < m) (h63 : k + m ≤ maxLen) (hbytes : (k + m) * bytes ≤ 140737488355328) (hbase : base ≤ w.heap.size) (H : Nat) (hH : w.heap.size = H)
    (h : ∀ g cap w', w'.ownsRow base e size (.slice (some ⟨g, 0, none⟩) (k + m) cap) (k + m) (xs ++ news) → w.grownBy w' v.ownBlock → (v.ownBlock = some g ∨ g = H) → g < w'.heap.size → wpListIn F n P ops Q rest (a.put o.dst (.slice (some ⟨g, 0, none⟩) (k + m) cap)) w') :
    wpListIn F n P ops Q (o :: rest) a w := by
  refine wpListIn_plain hgd fun K hK' => ?_
  obtain ⟨g, cap, w', hrun, r1, r2, r3, r4⟩ := run_append_lies (P := P) w t o.type base e i z size bytes ht hi hz hsize hby hzs hsz v k xs hown ad m c news hl hnews h1 hm h63 hbytes hbase H hH
  unfold Oper.wpIn
  refine ⟨?_, ?_⟩
  · simp [Oper.about, hop, resolve, Target.leads, Sem.run_pure]
  · rw [Oper.semAt_plain F _ _ (by rw [hop]; intro c hc'; cases hc')]
    simp [execOp, hop, resolve, invoke, builtin, hs, hx, hrun, Result.andThen]
    exact hK' _ _ (h g cap w' r1 r2 r3 r4)
/-- A list that is gathered in a variable. -/
def LI (Q : Nat → Prop) (W00 : World) (B : Nat) (pre : List En) (Yt : Nat → Prop) (W : World) : Prop :=
  ∃ v, (∀ i, Yt i ↔ Q i ∨ i = B ∨ v.ownBlock = some i) ∧ Turn (fun i => ¬ Q i) W00 W ∧ W.heap[B]? = some (.cells #[v] 41 (0, 0)) ∧ W.ownsRow (B + 1) 23 1 v pre.length (pre.map fun e => .int .u64 (e.p : Nat)) ∧ (v = .slice none 0 0 ↔ pre = [])
theorem LI.lt {Q : Nat → Prop} {W00 W : World} {B : Nat} {pre : List En} {Yt : Nat → Prop} (hQ : ∀ i, Q i → i < W00.heap.size) (h : LI Q W00 B pre Yt W) : ∀ i, Yt i → i < W.heap.size := by
  obtain ⟨v, h1, h2, h3, h4, -⟩ := h
  intro i q
  rcases (h1 i).1 q with c | c | c
  · exact Nat.lt_of_lt_of_le (hQ i c) h2.size
  · rw [c]; exact block_lt h3
  · exact (World.ownsRow.lt h4 i c).2
theorem LI.turn {Q : Nat → Prop} {W00 A C : World} {B : Nat} {pre : List En} {Yt Z : Nat → Prop} (h : LI Q W00 B pre Yt A) (ht : Turn Z A C) (hd : ∀ i, Yt i → ¬ Z i) : LI Q W00 B pre Yt C := by
  obtain ⟨v, h1, h2, h3, h4, h5⟩ := h
  refine ⟨v, h1, h2.trans ht (fun i _ q c => hd i ((h1 i).2 (Or.inl c)) q), turn_row ht h3 (hd B ((h1 B).2 (Or.inr (Or.inl rfl)))), rows_block h4 (fun g hg => ?_), h5⟩
  exact ht.block g (World.ownsRow.lt h4 g hg).2 (hd g ((h1 g).2 (Or.inr (Or.inr hg))))
/-- What a round that appends leaves. -/
theorem LI.step {Q : Nat → Prop} {W00 W2 w1 wz : World} {B sz g' cap : Nat} {pre : List En} {Yt : Nat → Prop} {v : Value} {e : En} (f1 : ∀ i, Yt i ↔ Q i ∨ i = B ∨ v.ownBlock = some i) (m2 : Turn (fun i => ¬ Q i) W00 W2) (hQB : ¬ Q B) (hQ : ∀ i, Q i → i < W00.heap.size ∧ i < B)
    (m4 : W2.ownsRow (B + 1) 23 1 v pre.length (pre.map fun e => .int .u64 (e.p : Nat))) (hsz : sz ≤ W2.heap.size) (hBl : B < sz)
    (hown : w1.ownsRow (B + 1) 23 1 (.slice (some ⟨g', 0, none⟩) (pre.length + 1) cap) (pre.length + 1) ((pre.map fun e => .int .u64 (e.p : Nat)) ++ [.int .u64 (e.p : Nat)])) (hT : Turn (fun i => v.ownBlock = some i) W2 w1) (hg : v.ownBlock = some g' ∨ g' = W2.heap.size + 1) (hgl : g' < w1.heap.size)
    (hz : wz.heap[B]? = some (.cells #[.slice (some ⟨g', 0, none⟩) (pre.length + 1) cap] 41 (0, 0))) (ht : Turn (fun i => i = B) w1 wz) :
    ∃ Y2, Turn (fun i => Yt i ∨ sz ≤ i) W2 wz ∧ (∀ i, i < sz → Y2 i → Yt i) ∧ LI Q W00 B (pre ++ [e]) Y2 wz := by
  have hgB : B + 1 ≤ g' := by
    rcases hown.2 with h2 | ⟨g, c, cur, hv, hbg, -⟩
    · have := h2.1; cases this
    · injection hv with h1; injection h1 with h1; injection h1 with h1; omega
  have hvB : ∀ i, v.ownBlock = some i → B + 1 ≤ i := fun i q => (World.ownsRow.lt m4 i q).1
  refine ⟨fun i => Q i ∨ i = B ∨ i = g', ((Turn.refl _ W2).trans hT (fun i _ q => Or.inl ((f1 i).2 (Or.inr (Or.inr q))))).trans ht (fun i _ (q : i = B) => Or.inl ((f1 i).2 (Or.inr (Or.inl q)))), fun i hi q => ?_, .slice (some ⟨g', 0, none⟩) (pre.length + 1) cap, fun i => ?_, ?_, hz, ?_, by simp⟩
  · rcases q with q | q | q
    · exact (f1 i).2 (Or.inl q)
    · exact (f1 i).2 (Or.inr (Or.inl q))
    · subst q
      rcases hg with c | c
      · exact (f1 _).2 (Or.inr (Or.inr c))
      · omega
  · simp [Value.ownBlock, eq_comm]
  · refine ((m2.trans hT (fun i _ q c => ?_)).trans ht (fun i _ (q : i = B) c => hQB (q ▸ c)))
    have := (hQ i c).2; have := hvB i q; omega
  · have := rows_block hown (w' := wz) (fun g hg2 => ht.block g ?_ ?_)
    · simpa using this
    · have : g' = g := by simpa [Value.ownBlock] using hg2
      omega
    · have : g' = g := by simpa [Value.ownBlock] using hg2
      show ¬ g = B; omega
theorem info1s : (Tryd.prog.info? 41).map (·.size) = some 1 := by kernel_rfl
theorem info_w : (Tryd.prog.info? 23).map (fun i => (i.zero, i.size, i.bytes)) = some (some (.int .u64 0), 1, 8) := by kernel_rfl

set_option maxRecDepth 100000 in
set_option maxHeartbeats 4000000 in
theorem list_c {w0 W : World} {O : Nat → Prop} {x ad S n : Nat} {g : Nat → Nat} {L : List Nd} (h : TrL w0 W O x ad S n g L) (hl : L.length ≤ 65536) :
    Calls Tryd.prog 19 #[.pointer (some ⟨x, 0, none⟩)] W fun e w' => ∃ v, e = .returned v ∧ w'.ownsRow W.heap.size 23 1 v L.length ((ps L).map fun p => .int .u64 (p : Nat)) ∧ (v = .slice none 0 0 ↔ L = []) ∧ Below W.heap.size W w' := by
  obtain ⟨h1, h2⟩ := h
  have k1 := h1.c1
  have hEm : ∀ e ∈ ens 0 L 0, sg 0 L 0 e.p = some e.s := fun e he => (ens_mem he h2.nd).2
  have hwl : ∀ e ∈ ens 0 L 0, e.p < 18446744073709551616 := fun e he => by have := (h1.good (hEm e he)).2; omega
  have hC := ens_chn 0 h2.z
  have hOb := h1.oblt
  have g3 := heap_alloc_new W (.cells #[.slice none 0 0] 41)
  have hB := below_new W (.cells #[.slice none 0 0] 41)
  generalize eW : W.alloc (.cells #[.slice none 0 0] 41) = W0 at *
  replace k1 := cell_later hB k1
  refine (callsIn_wide (n := 8)).1 ?_
  refine callsIn_of_wp_marks Tryd.func19 rfl trivial ?_ rfl
  simp only [Tryd.ntmps19, List.size_toArray, List.length_cons, List.length_nil, Nat.reduceAdd, Nat.reduceSub, Array.replicate_succ, Array.replicate_zero, List.push_toArray, List.append_toArray, List.nil_append, List.cons_append]
  gi_wp2_with fail
  (try rw [eW])
  refine ⟨trivial, (callsIn_wide.2 (along_c x (hd L 0) _)).mono ?_⟩
  rintro r w2 ⟨rfl, r1, r2, r3, hb2⟩
  have hl3 := block_lt r3
  have g32 := block_later hb2 g3
  have hb3 := block_lt g3
  obtain ⟨i0, hi, hz0, hz1, hz2⟩ := info_parts info_w
  have hT2 : Turn (fun i => ¬ Ob w0 O i) W w2 := turn_of_below _ (below_tr hB hb2)
  gi_wp2_with fail
  refine rf_law rfl (by omega) (gf := 56) (lb := #[.pointer (some ⟨W0.heap.size, 0, none⟩), .pointer (some ⟨W0.heap.size + 1, 0, none⟩), .pointer (some ⟨W0.heap.size + 1 + 1, 0, none⟩)]) rfl trivial (enters_of Tryd.func56 (by kernel_rfl) rfl)
    (along_on (8 - 1) (by omega) (ct := L.length) r1 r2 r3 hC (by rw [ens_len]; exact Nat.le_refl _) (by omega) hwl) (fun _ => rfl) (LI (Ob w0 O) W W.heap.size) (fun _ _ _ _ => False)
    (fun _ _ _ q => q.lt hOb) (fun _ _ _ _ _ q ht hd => q.turn ht hd) (fun _ _ _ _ _ _ q _ _ => q.elim) ?hHd (fun i => Ob w0 O i ∨ i = W.heap.size) ?h0 ?hZ ?hround ?hdone (fun _ _ _ _ _ _ _ q => q.elim)
  case hHd =>
    rintro pre Yt A ⟨v, -, ht, -⟩
    exact (h1.same ht).al hEm pre
  case h0 =>
    refine ⟨.slice none 0 0, fun i => ?_, hT2, g32, World.ownsRow_nil _ _ _ _, by simp⟩
    simp [Value.ownBlock]
  case hZ =>
    rintro i (c | c | c) <;> refine ⟨by omega, ?_⟩ <;> rintro (q | q)
    all_goals first
      | omega
      | (have := hOb i q; omega)
  case hround =>
    rintro l' sz pre e rest Yt W' hLe hI hsz hl' nl'
    gi_wp2
    refine ⟨Below.refl _ _, fun W2 ht hI2 => ?_⟩
    have hI' : Turn (fun _ => True) W W' := by
      obtain ⟨v, f1, m2, m3, m4, m5⟩ := hI
      exact (Turn.refl _ _).trans m2 (fun _ _ _ => trivial)
    have hBl : W.heap.size < W'.heap.size := by
      obtain ⟨v, f1, m2, m3, m4, m5⟩ := hI
      exact block_lt m3
    obtain ⟨v, f1, m2, m3, m4, m5⟩ := hI2
    have hc : W2.cell? ⟨W.heap.size, 0, none⟩ = some v := by rw [cell_of_row _ _ _ _ _ _ m3]; rfl
    have hpl : pre.length < 65536 := by
      have := ens_len 0 L 0
      rw [hLe] at this; simp at this; omega
    have hbs : W.heap.size + 1 ≤ W2.heap.size := block_lt m3
    gi_wp2_with (first
      | (gi_at_builtin; refine wpListIn_app _ rfl _ _ 41 rfl (W.heap.size + 1) 23 i0 (.int .u64 0) 1 8 Tryd.underlying41 hi hz0 hz1 hz2 rfl (by decide) v pre.length _ rfl (rows_block m4 (fun g hg => Below.heap_alloc _ _ _ (World.ownsRow.lt m4 g hg).2)) ⟨W2.heap.size, 0, none⟩ 1 1 [.int .u64 (e.p : Nat)] rfl rfl (cell_one_new _ _ _) (by simp [Value.oneCell']) (by decide) (by unfold maxLen; omega) (by omega) (by simp; omega) (W2.heap.size + 1) (by simp) ?_; intro g' cap' w1 hown' hgrow hg' hgl; have hTg := grown_turn hgrow; have hBr := turn_row hTg m3 (fun c => by have := (World.ownsRow.lt m4 _ c).1; omega))
      | (refine wpListIn_storeSeg rfl 41 _ _ rfl rfl (W.heap.size) 0 _ #[.slice (some ⟨g', 0, none⟩) (pre.length + 1) cap'] rfl rfl rfl 41 _ hBr (show 0 + 1 ≤ 1 by decide) info1s (by simp [Value.oneCell']) #[.slice (some ⟨g', 0, none⟩) (pre.length + 1) cap'] rfl ?_; intro wz hrz htz)
      | fail)
    subst hsz
    exact LI.step f1 m2 (fun c => Nat.lt_irrefl _ (hOb _ c)) (fun i c => ⟨hOb i c, hOb i c⟩) m4 (by have := ht.size; omega) hBl hown' hTg hg' hgl hrz htz
  case hdone =>
    rintro D Yt W' hD ⟨v, f1, m2, m3, m4, m5⟩ nD hYs ht hK
    have hc : W'.cell? ⟨W.heap.size, 0, none⟩ = some v := by rw [cell_of_row _ _ _ _ _ _ m3]; rfl
    have HN : Hid ((W'.putObj D (.deferred none)).ownsRow W.heap.size 23 1 v L.length ((ps L).map fun p => .int .u64 (p : Nat)) ∧ (v = .slice none 0 0 ↔ L = []) ∧ Below W.heap.size W (W'.putObj D (.deferred none))) := by
      refine ⟨rows_low (Nat.le_succ _) (rows_block (w := W') (by rw [ens_len, show (ens 0 L 0).map (fun e => Value.int .u64 (e.p : Nat)) = (ps L).map fun p => .int .u64 (p : Nat) by rw [← ens_ps 0 L 0, List.map_map]; rfl] at m4; exact m4) (fun g hg => World.putObj_heap_other (fun c => nD ((f1 D).2 (Or.inr (Or.inr (c ▸ hg))))))), ?_, ?_⟩
      · rw [m5]
        cases L with
        | nil => simp [ens]
        | cons n L => simp [ens]
      · refine ⟨m2.os, m2.tape, m2.output, by have := m2.size; simp; omega, fun i hi => ?_⟩
        refine (World.putObj_heap_other (by omega)).trans ?_
        by_cases c : Ob w0 O i
        · exact m2.block i hi (fun q => q c)
        · refine (ht.block i (by omega) (fun q => ?_)).trans ((below_tr hB hb2).block i hi)
          rcases q with (q | q) | q | q | q
          · exact c q
          · omega
          · omega
          · omega
          · omega
    gi_wp2
    refine ⟨by simp, .inl ⟨_, _, rfl, run_takeDeferred hK, ?_⟩⟩
    exact ⟨_, results_tmp rfl _ _ _, v, rfl, HN.out⟩
end TE
end Go.Proofs.YtcmndefjmhcbhaaDoor
