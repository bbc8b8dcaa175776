/- Buffers: two entries that meet; the walk of Clash. -/
import Derived.Test.YthebhgllnjgjhaaDoorTlbFlM
import Derived.Test.YthebhgllnjgjhaaDoorTlbS
namespace Go.Proofs.YthebhgllnjgjhaaDoor
open Go.RowKit

def mtB (x y : En) : Bool := mB x y.aid y.va || mB y x.aid x.va
set_option maxHeartbeats 2000000 in
theorem meets_any (x y : En) (hx : x.ok) (hy : y.ok) (w : World) :
    Calls Tryd.prog 40 #[x.v, y.v] w fun r w' => r = .returned (.bool (mtB x y)) ∧ Below w.heap.size w w' := by
  have h1 := fun w1 => matches_any x y.aid y.va hy.1 w1
  have h2 := fun w1 => matches_any y x.aid x.va hx.1 w1
  have HE : Hid (mtB x y = (mB x y.aid y.va || mB y x.aid x.va)) := rfl
  generalize mtB x y = M at *
  generalize mB x y.aid y.va = M1 at *
  generalize mB y x.aid x.va = M2 at *
  obtain ⟨a0, a1, a2, a3, a4, a5, a6, a7, a8, a9⟩ := x
  obtain ⟨b0, b1, b2, b3, b4, b5, b6, b7, b8, b9⟩ := y
  simp only [En.v] at *
  have K2 := heap_alloc2_old w (.cells #[.int .i64 a0, .int .u64 a1, .int .i64 a2, .int .i64 a3, .int .u64 a4, .bool a5, .bool a6, .bool a7, .bool a8, .int .i64 a9] 33) (.cells #[.int .i64 b0, .int .u64 b1, .int .i64 b2, .int .i64 b3, .int .u64 b4, .bool b5, .bool b6, .bool b7, .bool b8, .int .i64 b9] 33)
  have K3 := heap_alloc2_new w (.cells #[.int .i64 a0, .int .u64 a1, .int .i64 a2, .int .i64 a3, .int .u64 a4, .bool a5, .bool a6, .bool a7, .bool a8, .int .i64 a9] 33) (.cells #[.int .i64 b0, .int .u64 b1, .int .i64 b2, .int .i64 b3, .int .u64 b4, .bool b5, .bool b6, .bool b7, .bool b8, .int .i64 b9] 33)
  have HB := Hid.mk (below_tr (below_new w (.cells #[.int .i64 a0, .int .u64 a1, .int .i64 a2, .int .i64 a3, .int .u64 a4, .bool a5, .bool a6, .bool a7, .bool a8, .int .i64 a9] 33)) (below_new _ (.cells #[.int .i64 b0, .int .u64 b1, .int .i64 b2, .int .i64 b3, .int .u64 b4, .bool b5, .bool b6, .bool b7, .bool b8, .int .i64 b9] 33)))
  go_enter Tryd.func40, Tryd.ntmps40
  go_wp2_with fail
  refine (h1 _).mono ?_
  rintro e w1 ⟨rfl, hb⟩
  cases M1
  · obtain ⟨p0, p1, p2, p3, p4, p5, p6, p7, p8, p9⟩ := cells10 (block_later hb K2)
    obtain ⟨q0, q1, q2, q3, q4, q5, q6, q7, q8, q9⟩ := cells10 (block_later hb K3)
    have HB1 := Hid.mk (below_tr HB.out hb)
    clear K2 K3 hb HB
    go_wp2_with fail
    refine (h2 _).mono ?_
    rintro e w2 ⟨rfl, hb2⟩
    go_wp2
    go_ret
    exact ⟨by rw [HE.out]; rfl, below_tr HB1.out hb2⟩
  · clear K2 K3
    go_wp2
    go_ret
    exact ⟨by rw [HE.out]; rfl, below_tr HB.out hb⟩

/-- No two of the first i with another clash; none of those up to j with the one at i. -/
def NoC (l : List En) (i : Nat) : Prop := ∀ i' j', i' < i → i' < j' → j' < l.length → mtB (gE l i') (gE l j') = false
def NoR (l : List En) (i j : Nat) : Prop := ∀ j', i < j' → j' < j → mtB (gE l i) (gE l j') = false
theorem NoC.zero (l : List En) : NoC l 0 := fun _ _ h => absurd h (Nat.not_lt_zero _)
theorem NoR.zero (l : List En) (i : Nat) : NoR l i (i + 1) := fun j' h1 h2 => by omega
theorem NoC.succ {l : List En} {i : Nat} (h : NoC l i) (h2 : NoR l i l.length) : NoC l (i + 1) := fun i' j' h3 h4 h5 => by
  by_cases h6 : i' = i
  · subst h6; exact h2 j' h4 h5
  · exact h i' j' (by omega) h4 h5
theorem NoR.succ {l : List En} {i j : Nat} (h : NoR l i j) (h2 : mtB (gE l i) (gE l j) = false) : NoR l i (j + 1) := fun j' h3 h4 => by
  by_cases h6 : j' = j
  · subst h6; exact h2
  · exact h j' h3 (by omega)
/-- What Clash tells. -/
def ClR (l : List En) (a b : En) (c : Bool) : Prop := (c = false ∧ a = e0 ∧ b = e0 ∧ NoC l l.length) ∨ (c = true ∧ ∃ i j, i < j ∧ j < l.length ∧ a = (gE l i) ∧ b = (gE l j) ∧ mtB (gE l i) (gE l j) = true ∧ NoC l i ∧ NoR l i j)

theorem results_cct {fn : Func} {p q u : Tmp} {ty ty' : TypeId} (h : fn.results = #[.cell p ty, .cell q ty', .tmp u]) (tmps : Array Value) (P : Program) (w : World) :
    (results fn tmps).run P w =
      ((asAddr (tmps.getD p undef)).run P w).andThen fun a w₁ => ((loadVar ty a).run P w₁).andThen fun v w₂ => ((asAddr (tmps.getD q undef)).run P w₂).andThen fun a' w₃ => ((loadVar ty' a').run P w₃).andThen fun v' w₄ => .ok (.tuple #[v, v', tmps.getD u undef]) w₄ := by
  simp only [results, h]
  simp [Sem.run_bind, Result.andThen]
theorem res_row_row_tmp {P : Program} {fn : Func} {p q u : Tmp} {ty ty' : TypeId} (h : fn.results = #[.cell p ty, .cell q ty', .tmp u]) (tmps : Array Value) (w : World) (g g' : Nat) (t t' : TypeId) (cs cs' : Array Value) (fr fr' : Nat × Nat) (d d' : TypeDesc)
    (hp : tmps.getD p undef = .pointer (some ⟨g, 0, none⟩)) (hg : w.heap[g]? = some (.cells cs t fr))
    (hu : P.underlying ty = some d) (hd : (match d with | .struct _ | .array _ _ => true | _ => false) = true) (hi : (P.info? ty).map (·.size) = some cs.size)
    (hq : tmps.getD q undef = .pointer (some ⟨g', 0, none⟩)) (hg' : w.heap[g']? = some (.cells cs' t' fr'))
    (hu' : P.underlying ty' = some d') (hd' : (match d' with | .struct _ | .array _ _ => true | _ => false) = true) (hi' : (P.info? ty').map (·.size) = some cs'.size) :
    (results fn tmps).run P w = .ok (.tuple #[.agg cs, .agg cs', tmps.getD u undef]) w := by
  rw [results_cct h, hp, hq]
  simp [asAddr, run_loadVar_row w g t ty cs fr d hg hu hd hi, run_loadVar_row w g' t' ty' cs' fr' d' hg' hu' hd' hi', Result.andThen]

/-- A struct stored into a block, as one step of a region that draws. -/
theorem step_store_seg {P : Program} {ops : Array Oper} {op : Oper} {a : Act} {w : World} {Q : Exit → Act → World → Prop} {K : Act → World → Prop} {E : Prop} (hgd : op.guard = none) (hd : op.dst = none) (ty : TypeId) (x y : Operand) (ho : op.op = .store ty x y)
    (g o : Nat) (v : Value) (cells : Array Value) (hx : a.eval x = .pointer (some ⟨g, o, none⟩)) (hy : a.eval y = v) (hc : v.cells = cells)
    (t : TypeId) (cur : Array Value) (hg : w.heap[g]? = some (.cells cur t (0, 0))) (hfit : o + cells.size ≤ cur.size) (hi : (P.info? ty).map (·.size) = some cells.size) (h1 : cells.all (·.oneCell') = true)
    (new : Array Value) (hnew : segA cur o cells.toList = new)
    (h : ∀ wq, wq.heap[g]? = some (.cells new t (0, 0)) → Turn (fun i => i = g) w wq → K a wq) : if Region.wanted op (yielded ops a.tmps) = true then Oper.wp P op a w K Q else E := by
  have hw : Region.wanted op (yielded ops a.tmps) = true := by simp [Region.wanted, hgd]
  rw [if_pos hw]
  have hst := run_storeCells_at P g o t cells.toList 0 cur w hg (by simpa using hfit) (fun v hv => (Array.all_eq_true_iff_forall_mem.1 h1) v (by simpa using hv))
  have hsv : (storeVar ty ⟨g, o, none⟩ v).run P w = .ok () (w.setRow g new) := by
    cases hq : P.info? ty with
    | none => simp [hq] at hi
    | some i =>
      have hs : cells.size = i.size := by simp [hq] at hi; omega
      simp only [Nat.add_zero] at hst
      rw [← hnew]
      simp [storeVar, sizeOf, typeInfo, hq, hc, hs, hst, segA]
  unfold Oper.wp execOp
  simp only [ho, hx, hy, Instr.storeAt, Instr.sureAddr, Sem.run_bind, Sem.run_pure, Result.andThen_ok, hsv]
  have h2 := h _ (setRow_heap _ _ _ _ _ _ hg) (turn_setRow _ _ _)
  show K (a.put op.dst undef) _
  rw [hd]
  exact h2

theorem drop_addr (g o cap i : Nat) (l : List En) (hcap : l.length ≤ cap) : ∃ gA oA, (if cap = i + 1 then some (⟨g, o, none⟩ : Addr) else some ⟨g, o + (i + 1) * 10, none⟩) = some ⟨gA, oA, none⟩ ∧ ∀ W, RdA W (some ⟨g, o, none⟩) l → RdA W (some ⟨gA, oA, none⟩) (l.drop (i + 1)) := by
  by_cases h : cap = i + 1
  · refine ⟨g, o, by simp [h], fun W _ => ?_⟩
    rw [List.drop_eq_nil_of_le (by omega)]
    exact RdA.nil _ _
  · exact ⟨g, o + (i + 1) * 10, by simp [h], fun W hW => hW.drop (i + 1)⟩
theorem drop_get (l : List En) (i k : Nat) (h : k < (l.drop (i + 1)).length) : (gE (l.drop (i + 1)) k) = (gE l (i + 1 + k)) := by
  have h1 : i + 1 + k < l.length := by simp at h; omega
  rw [gE_pos _ k h, gE_pos l _ h1, List.getElem_drop]

set_option maxHeartbeats 8000000 in
set_option maxRecDepth 100000 in
theorem clash_c {w : World} {X : Nat → Prop} {t : Nat} {most : Int} {l : List En} (h : Buf w X t most l) (hn : l.length ≤ 1000) :
    Calls Tryd.prog 21 #[.pointer (some ⟨t, 0, none⟩)] w fun r w' => ∃ a b c, r = .returned (.tuple #[a.v, b.v, .bool c]) ∧ ClR l a b c ∧ Below w.heap.size w w' := by
  obtain ⟨v, h⟩ := h
  obtain ⟨-, c1⟩ := row2c h.row
  have HOKL : Hid (∀ i, i < l.length → (gE l i).ok) := fun i hi => h.ok _ (by rw [gE_pos l i hi]; exact List.getElem_mem hi)
  obtain ⟨ad, cap, rfl, hf, hr⟩ := h.form
  have hcp : l.length ≤ cap := by
    rcases h.own.2 with ⟨e, h0⟩ | ⟨g, c, cur, e, -, -, h2, -⟩
    · omega
    · simp only [Value.slice.injEq] at e; omega
  have HR := Hid.mk hr
  have HCP := Hid.mk hcp
  have HC1 := Hid.mk c1
  have hlI : (l.length : Int) ≤ 1000 := by omega
  have c1a := fun o1 o2 => cell_later (below_new (w.alloc o1) o2) (cell_later (below_new w o1) c1)
  clear h hf hr hn hcp c1
  go_enter Tryd.func21, Tryd.ntmps21
  go_wp2
  clear c1a
  go_loopw [5, 6, 14] (fun _ _ s14 wr => ∃ i : Nat, i ≤ l.length ∧ s14 = .int .i64 (i : Nat) ∧ Below w.heap.size w wr ∧ wr.heap[w.heap.size]? = some (.cells e0.ar 33 (0, 0)) ∧ wr.heap[w.heap.size + 1]? = some (.cells e0.ar 33 (0, 0)) ∧ NoC l i) (fun _ _ s14 _ => l.length - (RowKit.intOf s14).toNat)
  case atStart => exact ⟨0, by omega, rfl, below_tr (below_new _ _) (below_new _ _), heap_alloc2_old _ _ _, heap_alloc2_new _ _ _, NoC.zero l⟩
  case round =>
    obtain ⟨i, hi, rfl, hb, h2, h3, hno⟩ := hrel
    have HB := Hid.mk hb
    have H2 := Hid.mk h2
    have H3 := Hid.mk h3
    have HNO := Hid.mk hno
    clear h2 h3 hno
    by_cases hlt : i < l.length
    · have hlt2 : (i : Int) < l.length := by omega
      have HLT := Hid.mk hlt
      have hib : (i : Int) < 1000 := by omega
      obtain ⟨g, o, rfl, hg, hc⟩ := HR.out i hlt
      have d0 := cell_later hb (hc 0 _ rfl)
      have d1 := cell_later hb (hc 1 _ rfl)
      have d2 := cell_later hb (hc 2 _ rfl)
      have d3 := cell_later hb (hc 3 _ rfl)
      have d4 := cell_later hb (hc 4 _ rfl)
      have d5 := cell_later hb (hc 5 _ rfl)
      have d6 := cell_later hb (hc 6 _ rfl)
      have d7 := cell_later hb (hc 7 _ rfl)
      have d8 := cell_later hb (hc 8 _ rfl)
      have d9 := cell_later hb (hc 9 _ rfl)
      rw [Nat.add_zero] at d0
      obtain ⟨gA, oA, hA, hAr⟩ := drop_addr g o cap i l HCP.out
      have HAR := Hid.mk hAr
      have c1 := cell_later hb HC1.out
      have c1a := fun ob => cell_later (below_new wr ob) c1
      have nil1 : i + 1 ≤ l.length := by omega
      have h0i : (0 : Int) ≤ (i : Int) + 1 := by omega
      have hnl : (i : Int) + 1 ≤ (l.length : Int) := by omega
      have HLD : Hid (l.length - (i + 1) = (l.drop (i + 1)).length) := (List.length_drop ..).symm
      have hMN : ∀ (k : Nat), k < (l.drop (i + 1)).length → ∀ w1, Calls Tryd.prog 40 #[(gE l i).v, (gE (l.drop (i + 1)) k).v] w1 fun r w' => r = .returned (.bool (mtB (gE l i) (gE l (i + 1 + k)))) ∧ Below w1.heap.size w1 w' := fun k hk w1 => by
        have h4 : i + 1 + k < l.length := by simp at hk; omega
        rw [drop_get l i k hk]
        exact meets_any _ _ (HOKL.out i HLT.out) (HOKL.out _ h4) w1
      have HMN := Hid.mk hMN
      have HXE := Hid.mk (rfl : (gE l i) = (gE l i))
      have HEX : Hid (∃ x : En, x = (gE l i)) := ⟨_, rfl⟩
      clear hc hb hi hlt hg hAr hMN c1
      obtain ⟨x, hx⟩ := HEX.out
      rw [← hx] at d0 d1 d2 d3 d4 d5 d6 d7 d8 d9 HMN
      have HX := Hid.mk hx
      clear hx HXE HEX
      obtain ⟨a0, a1, a2, a3, a4, a5, a6, a7, a8, a9⟩ := x
      simp only [En.v] at *
      go_wp2
      clear d0 d1 d2 d3 d4 d5 d6 d7 d8 d9 c1a hA
      have HNX : Hid (Below w.heap.size w (wr.alloc (.cells #[.int .i64 a0, .int .u64 a1, .int .i64 a2, .int .i64 a3, .int .u64 a4, .bool a5, .bool a6, .bool a7, .bool a8, .int .i64 a9] 33))) := below_tr HB.out (below_new _ _)
      have K2x := Hid.mk (block_later (below_new wr (.cells #[.int .i64 a0, .int .u64 a1, .int .i64 a2, .int .i64 a3, .int .u64 a4, .bool a5, .bool a6, .bool a7, .bool a8, .int .i64 a9] 33)) H2.out)
      have K3x := Hid.mk (block_later (below_new wr (.cells #[.int .i64 a0, .int .u64 a1, .int .i64 a2, .int .i64 a3, .int .u64 a4, .bool a5, .bool a6, .bool a7, .bool a8, .int .i64 a9] 33)) H3.out)
      have K6x := Hid.mk (heap_alloc_new wr (.cells #[.int .i64 a0, .int .u64 a1, .int .i64 a2, .int .i64 a3, .int .u64 a4, .bool a5, .bool a6, .bool a7, .bool a8, .int .i64 a9] 33))
      have HLE6 : Hid (w.heap.size + 1 < wr.heap.size) := block_lt H3.out
      generalize wr.alloc (.cells #[.int .i64 a0, .int .u64 a1, .int .i64 a2, .int .i64 a3, .int .u64 a4, .bool a5, .bool a6, .bool a7, .bool a8, .int .i64 a9] 33) = wx at *
      generalize wr.heap.size = B6 at *
      go_loopw [8, 27] (fun _ s27 wq => ∃ k : Nat, k ≤ (l.drop (i + 1)).length ∧ s27 = .int .i64 (k : Nat) ∧ Below w.heap.size w wq ∧ wq.heap[w.heap.size]? = some (.cells e0.ar 33 (0, 0)) ∧ wq.heap[w.heap.size + 1]? = some (.cells e0.ar 33 (0, 0)) ∧ wq.heap[B6]? = some (.cells #[.int .i64 a0, .int .u64 a1, .int .i64 a2, .int .i64 a3, .int .u64 a4, .bool a5, .bool a6, .bool a7, .bool a8, .int .i64 a9] 33 (0, 0)) ∧ NoR l i (i + 1 + k)) (fun _ s27 _ => (l.drop (i + 1)).length - (RowKit.intOf s27).toNat)
      case atStart => exact ⟨0, by omega, rfl, HNX.out, K2x.out, K3x.out, K6x.out, NoR.zero l i⟩
      case round =>
        obtain ⟨k, hk, rfl, hb, h2, h3, h6, hnr⟩ := hrel
        have HBq := Hid.mk hb
        have H2q := Hid.mk h2
        have H3q := Hid.mk h3
        have H6q := Hid.mk h6
        have HNR := Hid.mk hnr
        clear h2 h3 hnr
        by_cases hkt : k < (l.drop (i + 1)).length
        · have hkt2 : (k : Int) < ((l.length - (i + 1) : Nat) : Int) := by have := HLD.out; omega
          have HKT := Hid.mk hkt
          have hkb : (k : Int) < 1000 := by have := HLD.out; omega
          obtain ⟨g2, o2, e2, hg2, hc⟩ := HAR.out w (HR.out) k hkt
          cases e2
          have d0 := cell_later hb (hc 0 _ rfl)
          have d1 := cell_later hb (hc 1 _ rfl)
          have d2 := cell_later hb (hc 2 _ rfl)
          have d3 := cell_later hb (hc 3 _ rfl)
          have d4 := cell_later hb (hc 4 _ rfl)
          have d5 := cell_later hb (hc 5 _ rfl)
          have d6 := cell_later hb (hc 6 _ rfl)
          have d7 := cell_later hb (hc 7 _ rfl)
          have d8 := cell_later hb (hc 8 _ rfl)
          have d9 := cell_later hb (hc 9 _ rfl)
          rw [Nat.add_zero] at d0
          have hcall := HMN.out k hkt
          rw [HX.out] at hcall
          have HYE : Hid (∃ y : En, y = (gE (l.drop (i + 1)) k)) := ⟨_, rfl⟩
          obtain ⟨y, hy⟩ := HYE.out
          rw [← hy] at d0 d1 d2 d3 d4 d5 d6 d7 d8 d9 hcall
          have HY := Hid.mk hy
          clear hc hb hk hkt hg2 hy HYE
          obtain ⟨b0, b1, b2, b3, b4, b5, b6, b7, b8, b9⟩ := y
          simp only at *
          obtain ⟨q0, q1, q2, q3, q4, q5, q6, q7, q8, q9⟩ := cells10 h6
          replace q0 := fun ob => cell_later (below_new wr ob) q0
          replace q1 := fun ob => cell_later (below_new wr ob) q1
          replace q2 := fun ob => cell_later (below_new wr ob) q2
          replace q3 := fun ob => cell_later (below_new wr ob) q3
          replace q4 := fun ob => cell_later (below_new wr ob) q4
          replace q5 := fun ob => cell_later (below_new wr ob) q5
          replace q6 := fun ob => cell_later (below_new wr ob) q6
          replace q7 := fun ob => cell_later (below_new wr ob) q7
          replace q8 := fun ob => cell_later (below_new wr ob) q8
          replace q9 := fun ob => cell_later (below_new wr ob) q9
          clear h6
          cases hM : mtB (gE l i) (gE l (i + 1 + k))
          · rw [hM] at hcall
            have HNR2 := Hid.mk (HNR.out.succ hM)
            clear hM
            go_wp2_with fail
            refine (hcall _).mono ?_
            rintro e w' ⟨rfl, hb'⟩
            have HB2 := Hid.mk (below_tr (below_new wr (.cells #[.int .i64 b0, .int .u64 b1, .int .i64 b2, .int .i64 b3, .int .u64 b4, .bool b5, .bool b6, .bool b7, .bool b8, .int .i64 b9] 33)) hb')
            clear hb' hcall d0 d1 d2 d3 d4 d5 d6 d7 d8 d9 q0 q1 q2 q3 q4 q5 q6 q7 q8 q9
            go_wp2
            go_roundw
            case rel => exact ⟨k + 1, HKT.out, by go_num, below_tr HBq.out HB2.out, block_later HB2.out H2q.out, block_later HB2.out H3q.out, block_later HB2.out H6q.out, HNR2.out⟩
            case measure => have := HKT.out; simp [RowKit.intOf]; omega
          · rw [hM] at hcall
            have HM := Hid.mk hM
            clear hM
            go_wp2_with fail
            refine (hcall _).mono ?_
            rintro e w' ⟨rfl, hb'⟩
            have HB2 := Hid.mk (below_tr (below_new wr (.cells #[.int .i64 b0, .int .u64 b1, .int .i64 b2, .int .i64 b3, .int .u64 b4, .bool b5, .bool b6, .bool b7, .bool b8, .int .i64 b9] 33)) hb')
            have H8q := Hid.mk (block_later hb' (heap_alloc_new wr (.cells #[.int .i64 b0, .int .u64 b1, .int .i64 b2, .int .i64 b3, .int .u64 b4, .bool b5, .bool b6, .bool b7, .bool b8, .int .i64 b9] 33)))
            have HL8 : Hid (B6 < wr.heap.size) := block_lt H6q.out
            have H6r := Hid.mk (block_later HB2.out H6q.out)
            have H2d := Hid.mk (block_later (below_tr HB2.out (Below.refl _ w').drew) H2q.out)
            have H3d := Hid.mk (block_later (below_tr HB2.out (Below.refl _ w').drew) H3q.out)
            have HBd := Hid.mk (below_tr HBq.out (below_tr HB2.out (Below.refl _ w').drew))
            clear hb' hcall d0 d1 d2 d3 d4 d5 d6 d7 d8 d9 q0 q1 q2 q3 q4 q5 q6 q7 q8 q9 HB2
            generalize wr.heap.size = B8 at *
            obtain ⟨q0, q1, q2, q3, q4, q5, q6, q7, q8, q9⟩ := cells10 H6r.out
            obtain ⟨f0, f1, f2, f3, f4, f5, f6, f7, f8, f9⟩ := cells10 H8q.out
            go_wp2_with fail
            refine wp_region_noPanic ?_
            refine wp_region_held_drew (S := (fun w' => w'.cell? ⟨B6, 0, none⟩ = some (.int .i64 a0) ∧ w'.cell? ⟨B6, 1, none⟩ = some (.int .u64 a1) ∧ w'.cell? ⟨B6, 2, none⟩ = some (.int .i64 a2) ∧ w'.cell? ⟨B6, 3, none⟩ = some (.int .i64 a3) ∧ w'.cell? ⟨B6, 4, none⟩ = some (.int .u64 a4) ∧ w'.cell? ⟨B6, 5, none⟩ = some (.bool a5) ∧ w'.cell? ⟨B6, 6, none⟩ = some (.bool a6) ∧ w'.cell? ⟨B6, 7, none⟩ = some (.bool a7) ∧ w'.cell? ⟨B6, 8, none⟩ = some (.bool a8) ∧ w'.cell? ⟨B6, 9, none⟩ = some (.int .i64 a9) ∧ w'.cell? ⟨B8, 0, none⟩ = some (.int .i64 b0) ∧ w'.cell? ⟨B8, 1, none⟩ = some (.int .u64 b1) ∧ w'.cell? ⟨B8, 2, none⟩ = some (.int .i64 b2) ∧ w'.cell? ⟨B8, 3, none⟩ = some (.int .i64 b3) ∧ w'.cell? ⟨B8, 4, none⟩ = some (.int .u64 b4) ∧ w'.cell? ⟨B8, 5, none⟩ = some (.bool b5) ∧ w'.cell? ⟨B8, 6, none⟩ = some (.bool b6) ∧ w'.cell? ⟨B8, 7, none⟩ = some (.bool b7) ∧ w'.cell? ⟨B8, 8, none⟩ = some (.bool b8) ∧ w'.cell? ⟨B8, 9, none⟩ = some (.int .i64 b9))) (by kernel_rfl) ?_ (fun hHeld => ?_)
            · exact ⟨cell_later (Below.refl _ _).drew q0, cell_later (Below.refl _ _).drew q1, cell_later (Below.refl _ _).drew q2, cell_later (Below.refl _ _).drew q3, cell_later (Below.refl _ _).drew q4, cell_later (Below.refl _ _).drew q5, cell_later (Below.refl _ _).drew q6, cell_later (Below.refl _ _).drew q7, cell_later (Below.refl _ _).drew q8, cell_later (Below.refl _ _).drew q9, cell_later (Below.refl _ _).drew f0, cell_later (Below.refl _ _).drew f1, cell_later (Below.refl _ _).drew f2, cell_later (Below.refl _ _).drew f3, cell_later (Below.refl _ _).drew f4, cell_later (Below.refl _ _).drew f5, cell_later (Below.refl _ _).drew f6, cell_later (Below.refl _ _).drew f7, cell_later (Below.refl _ _).drew f8, cell_later (Below.refl _ _).drew f9⟩
            refine take_at (i := 0) (v := ?_) 34 rfl rfl (by kernel_rfl) (by kernel_rfl) (by kernel_rfl) (fun _ _ _ h => h) (Or.inl ⟨by rfl, ?_⟩) (by assumption) ?_
            rotate_left
            · (intro w' hSw; (try dsimp only at hSw); go_simp; all_goals with_reducible rfl)
            try simp only [Act.put, List.setIfInBounds_toArray, List.set_cons_zero, List.set_cons_succ]
            refine take_at (i := 1) (v := ?_) 35 rfl rfl (by kernel_rfl) (by kernel_rfl) (by kernel_rfl) (fun _ _ _ h => h) (Or.inl ⟨by rfl, ?_⟩) (by assumption) ?_
            rotate_left
            · (intro w' hSw; (try dsimp only at hSw); go_simp; all_goals with_reducible rfl)
            try simp only [Act.put, List.setIfInBounds_toArray, List.set_cons_zero, List.set_cons_succ]
            have HL6 := HLE6.out
            have HL9 := HL8.out
            refine wpAnyH_ready (rs := [2]) (by kernel_rfl) (by simp) ?_
            refine AllReadyH.cons rfl (fun K hK => ?_) AllReadyH.nil
            refine step_store_seg rfl rfl 33 _ _ rfl w.heap.size 0 _ #[.int .i64 a0, .int .u64 a1, .int .i64 a2, .int .i64 a3, .int .u64 a4, .bool a5, .bool a6, .bool a7, .bool a8, .int .i64 a9] rfl rfl rfl 33 _ H2d.out (show 0 + 10 ≤ 10 by decide) info_en (by simp [Value.oneCell']) #[.int .i64 a0, .int .u64 a1, .int .i64 a2, .int .i64 a3, .int .u64 a4, .bool a5, .bool a6, .bool a7, .bool a8, .int .i64 a9] rfl ?_
            intro w5 k5 t5
            have H6s := Hid.mk (block_turn t5 (block_later (Below.refl _ w').drew H6r.out) (by omega))
            have H8s := Hid.mk (block_turn t5 (block_later (Below.refl _ w').drew H8q.out) (by omega))
            have H3s := Hid.mk (block_turn t5 H3d.out (by omega))
            have HB5 := Hid.mk (below_turn HBd.out t5 (Nat.le_refl _))
            have H2s := Hid.mk k5
            clear k5 t5 q0 q1 q2 q3 q4 q5 q6 q7 q8 q9 f0 f1 f2 f3 f4 f5 f6 f7 f8 f9
            obtain ⟨q0, q1, q2, q3, q4, q5, q6, q7, q8, q9⟩ := cells10 H6s.out
            obtain ⟨f0, f1, f2, f3, f4, f5, f6, f7, f8, f9⟩ := cells10 H8s.out
            refine hK.out _ _ ⟨q0, q1, q2, q3, q4, q5, q6, q7, q8, q9, f0, f1, f2, f3, f4, f5, f6, f7, f8, f9⟩ (fun hHeld1 => ?_)
            clear hK hHeld
            refine wpAnyH_ready (rs := [3]) (by kernel_rfl) (by simp) ?_
            refine AllReadyH.cons rfl (fun K hK => ?_) AllReadyH.nil
            refine step_store_seg rfl rfl 33 _ _ rfl (w.heap.size + 1) 0 _ #[.int .i64 b0, .int .u64 b1, .int .i64 b2, .int .i64 b3, .int .u64 b4, .bool b5, .bool b6, .bool b7, .bool b8, .int .i64 b9] rfl rfl rfl 33 _ H3s.out (show 0 + 10 ≤ 10 by decide) info_en (by simp [Value.oneCell']) #[.int .i64 b0, .int .u64 b1, .int .i64 b2, .int .i64 b3, .int .u64 b4, .bool b5, .bool b6, .bool b7, .bool b8, .int .i64 b9] rfl ?_
            intro w6 k6 t6
            have H2t := Hid.mk (block_turn t6 H2s.out (by omega))
            have HB6 := Hid.mk (below_turn HB5.out t6 (Nat.le_succ _))
            have H3t := Hid.mk k6
            have H6t := block_turn t6 H6s.out (by omega)
            have H8t := block_turn t6 H8s.out (by omega)
            clear k6 t6 q0 q1 q2 q3 q4 q5 q6 q7 q8 q9 f0 f1 f2 f3 f4 f5 f6 f7 f8 f9
            obtain ⟨q0, q1, q2, q3, q4, q5, q6, q7, q8, q9⟩ := cells10 H6t
            obtain ⟨f0, f1, f2, f3, f4, f5, f6, f7, f8, f9⟩ := cells10 H8t
            refine hK.out _ _ ⟨q0, q1, q2, q3, q4, q5, q6, q7, q8, q9, f0, f1, f2, f3, f4, f5, f6, f7, f8, f9⟩ (fun hHeld2 => ?_)
            clear hK hHeld1
            refine take_at (i := 4) (v := ?_) 4 rfl rfl (by kernel_rfl) (by kernel_rfl) (by kernel_rfl) (fun _ _ _ h => h) (Or.inl ⟨by rfl, ?_⟩) (by assumption) ?_
            rotate_left
            · (intro w' hSw; (try dsimp only at hSw); go_simp; all_goals with_reducible rfl)
            try simp only [Act.put, List.setIfInBounds_toArray, List.set_cons_zero, List.set_cons_succ]
            refine wpAnyH_done (by kernel_rfl) ?_ _
            refine NoPanic.normal ?_
            have HFIN : Hid (ClR l ⟨a0, a1, a2, a3, a4, a5, a6, a7, a8, a9⟩ ⟨b0, b1, b2, b3, b4, b5, b6, b7, b8, b9⟩ true) := Or.inr ⟨rfl, i, i + 1 + k, by omega, by have := HKT.out; rw [List.length_drop] at this; omega, HX.out, by rw [HY.out]; exact drop_get l i k HKT.out, HM.out, HNO.out, HNR.out⟩
            clear q0 q1 q2 q3 q4 q5 q6 q7 q8 q9 f0 f1 f2 f3 f4 f5 f6 f7 f8 f9 H6t H8t hHeld2
            go_wp2
            refine bodyPost_ret (v := .tuple #[.agg #[.int .i64 a0, .int .u64 a1, .int .i64 a2, .int .i64 a3, .int .u64 a4, .bool a5, .bool a6, .bool a7, .bool a8, .int .i64 a9], .agg #[.int .i64 b0, .int .u64 b1, .int .i64 b2, .int .i64 b3, .int .u64 b4, .bool b5, .bool b6, .bool b7, .bool b8, .int .i64 b9], .bool true]) ?_ rfl ⟨⟨a0, a1, a2, a3, a4, a5, a6, a7, a8, a9⟩, ⟨b0, b1, b2, b3, b4, b5, b6, b7, b8, b9⟩, true, rfl, HFIN.out, HB6.out⟩
            exact res_row_row_tmp (p := 2) (q := 3) (u := 4) rfl _ _ w.heap.size (w.heap.size + 1) 33 33 _ _ _ _ _ _ rfl H2t.out Tryd.underlying33 rfl (by kernel_rfl) rfl H3t.out Tryd.underlying33 rfl (by kernel_rfl)
        · have hkt2 : ¬ (k : Int) < ((l.length - (i + 1) : Nat) : Int) := by have := HLD.out; omega
          have hke : i + 1 + k = l.length := by have := HLD.out; have := HLT.out; omega
          have HNC : Hid (NoC l (i + 1)) := by
            have h7 := HNR.out
            rw [hke] at h7
            exact HNO.out.succ h7
          clear hb hk hkt h6 hke
          go_wp2
          go_roundw
          case rel => exact ⟨i + 1, by have := HLT.out; omega, by go_num, HBq.out, H2q.out, H3q.out, HNC.out⟩
          case measure => have := HLT.out; simp [RowKit.intOf]; omega
    · have hlt2 : ¬ (i : Int) < l.length := by omega
      obtain rfl : i = l.length := by omega
      clear hlt hi hb
      have HFIN : Hid (ClR l e0 e0 false) := Or.inl ⟨rfl, rfl, rfl, HNO.out⟩
      go_wp2_with (first
        | (refine wpList_store_segTo rfl 33 _ _ rfl rfl w.heap.size 0 _ #[.int .i64 0, .int .u64 0, .int .i64 0, .int .i64 0, .int .u64 0, .bool false, .bool false, .bool false, .bool false, .int .i64 0] rfl rfl rfl 33 _ H2.out (show 0 + 10 ≤ 10 by decide) info_en (by simp [Value.oneCell']) #[.int .i64 0, .int .u64 0, .int .i64 0, .int .i64 0, .int .u64 0, .bool false, .bool false, .bool false, .bool false, .int .i64 0] rfl ?_
           intro w5 k5 t5
           have H2s := Hid.mk k5
           have H3s := Hid.mk (block_turn t5 H3.out (by omega))
           have HB5 := Hid.mk (below_turn HB.out t5 (Nat.le_refl _))
           clear k5 t5)
        | (refine wpList_store_segTo rfl 33 _ _ rfl rfl (w.heap.size + 1) 0 _ #[.int .i64 0, .int .u64 0, .int .i64 0, .int .i64 0, .int .u64 0, .bool false, .bool false, .bool false, .bool false, .int .i64 0] rfl rfl rfl 33 _ H3s.out (show 0 + 10 ≤ 10 by decide) info_en (by simp [Value.oneCell']) #[.int .i64 0, .int .u64 0, .int .i64 0, .int .i64 0, .int .u64 0, .bool false, .bool false, .bool false, .bool false, .int .i64 0] rfl ?_
           intro w6 k6 t6
           have H2t := Hid.mk (block_turn t6 H2s.out (by omega))
           have H3t := Hid.mk k6
           have HB6 := Hid.mk (below_turn HB5.out t6 (Nat.le_succ _))
           clear k6 t6)
        | fail)
      refine bodyPost_ret (v := .tuple #[.agg #[.int .i64 0, .int .u64 0, .int .i64 0, .int .i64 0, .int .u64 0, .bool false, .bool false, .bool false, .bool false, .int .i64 0], .agg #[.int .i64 0, .int .u64 0, .int .i64 0, .int .i64 0, .int .u64 0, .bool false, .bool false, .bool false, .bool false, .int .i64 0], .bool false]) ?_ rfl ⟨e0, e0, Or.inl ⟨rfl, HFIN.out, HB6.out⟩⟩
      exact res_row_row_tmp (p := 2) (q := 3) (u := 4) rfl _ _ w.heap.size (w.heap.size + 1) 33 33 _ _ _ _ _ _ rfl H2t.out Tryd.underlying33 rfl (by kernel_rfl) rfl H3t.out Tryd.underlying33 rfl (by kernel_rfl)

end Go.Proofs.YthebhgllnjgjhaaDoor
