/- P37 -/
import Derived.Test.YtfdbdeckohaneaaGreatDoorP36
set_option maxHeartbeats 16000000
set_option maxRecDepth 100000
namespace Go.Proofs.YtfdbdeckohaneaaGreatDoor.MM
open Go.RowKit Go.Maps
abbrev yR (most : Int) (v : Value) : Array Value := #[.int .u64 1048576, v, .int .i64 most, .slice none 0 0, .slice none 0 0, .bool false, .int .u64 0, .int .i64 0, .slice none 0 0]
theorem info_X : (Tryz.prog.info? 34).map (·.size) = some 9 := by kernel_rfl
theorem info_M : (Tryz.prog.info? 29).map (·.size) = some 2 := by kernel_rfl
theorem cells9 {w : World} {g t : Nat} {c0 c1 c2 c3 c4 c5 c6 c7 c8 : Value} (hh : w.heap[g]? = some (.cells #[c0, c1, c2, c3, c4, c5, c6, c7, c8] t (0, 0))) : w.cell? ⟨g, 0, none⟩ = some c0 ∧ w.cell? ⟨g, 1, none⟩ = some c1 ∧ w.cell? ⟨g, 2, none⟩ = some c2 ∧ w.cell? ⟨g, 3, none⟩ = some c3 ∧ w.cell? ⟨g, 4, none⟩ = some c4 ∧ w.cell? ⟨g, 5, none⟩ = some c5 ∧ w.cell? ⟨g, 6, none⟩ = some c6 ∧ w.cell? ⟨g, 7, none⟩ = some c7 ∧ w.cell? ⟨g, 8, none⟩ = some c8 := by
 refine ⟨?_, ?_, ?_, ?_, ?_, ?_, ?_, ?_, ?_⟩
 all_goals (rw [cell_of_row _ _ _ _ _ _ hh]; rfl)
theorem results_tmp_cell_tmp {fn : Func} {p u q : Tmp} {ty : TypeId} (h : fn.results = #[.tmp u, .cell p ty, .tmp q]) (tmps : Array Value) (P : Program) (w : World) :
  (results fn tmps).run P w =
   ((asAddr (tmps.getD p undef)).run P w).andThen fun a w₁ => ((loadVar ty a).run P w₁).andThen fun v w₂ => .ok (.tuple #[tmps.getD u undef, v, tmps.getD q undef]) w₂ := by
 simp only [results, h]
 simp [Sem.run_bind, Result.andThen]
theorem results_tmp_row_tmp {P : Program} {fn : Func} {p u q : Tmp} {ty : TypeId} (h : fn.results = #[.tmp u, .cell p ty, .tmp q]) (tmps : Array Value) (w : World) (g : Nat) (t : TypeId) (cs : Array Value) (fr : Nat × Nat) (d : TypeDesc)
  (hp : tmps.getD p undef = .pointer (some ⟨g, 0, none⟩)) (hg : w.heap[g]? = some (.cells cs t fr))
  (hu : P.underlying ty = some d) (hd : (match d with | .struct _ | .array _ _ => true | _ => false) = true) (hi : (P.info? ty).map (·.size) = some cs.size) :
  (results fn tmps).run P w = .ok (.tuple #[tmps.getD u undef, .agg cs, tmps.getD q undef]) w := by
 rw [results_tmp_cell_tmp h, hp]
 simp [asAddr, run_loadVar_row w g t ty cs fr d hg hu hd hi, Result.andThen]
structure PlayX (w wr : World) (most : Int) (xb a S n : Nat) (f : Nat → Nat) (v : Value) (L : WL) (X B : Nat → Prop) : Prop where
 mem : qcw wr X a S n f
 lst : Psl wr B v L
 xlo : ∀ i, X i → w.heap.size ≤ i ∧ i ≠ xb
 blo : ∀ i, B i → w.heap.size ≤ i ∧ i < wr.heap.size ∧ ¬ X i ∧ i ≠ xb
 row : wr.heap[xb]? = some (.cells (yR most v) 34)
 xb0 : w.heap.size ≤ xb
 bel : Below w.heap.size w wr
def qfn (w wr : World) (most : Int) (xb a S n : Nat) (f : Nat → Nat) (v : Value) (L : WL) : Prop := ∃ X B, PlayX w wr most xb a S n f v L X B
section
variable {w wr w' : World} {most : Int} {xb a S n : Nat} {f : Nat → Nat} {v : Value} {L : WL}
theorem qfn.bel (h : qfn w wr most xb a S n f v L) : Below w.heap.size w wr := by obtain ⟨X, B, h⟩ := h; exact h.bel
theorem qfn.row (h : qfn w wr most xb a S n f v L) : wr.heap[xb]? = some (.cells (yR most v) 34) := by obtain ⟨X, B, h⟩ := h; exact h.row
theorem qfn.xb0 (h : qfn w wr most xb a S n f v L) : w.heap.size ≤ xb := by obtain ⟨X, B, h⟩ := h; exact h.xb0
theorem qfn.put {X B : Nat → Prop} {w1 : World} {v' : Value} {L' : WL} (h : PlayX w wr most xb a S n f v L X B) (hb : Below wr.heap.size wr w1) (hp1 : Psl w1 (fun g => B g ∨ wr.heap.size ≤ g) v' L') (w2 : World) (hr : w2.heap[xb]? = some (.cells (yR most v') 34)) (ht : Turn (fun i => i = xb) w1 w2) :
  qfn w w2 most xb a S n f v' L' := by
 have hp2 : Psl w1 (fun g => (B g ∨ wr.heap.size ≤ g) ∧ g < w1.heap.size) v' L' := by
  rcases hp1 with h | ⟨g, cap, q1, q2, q3, q4⟩
  ·exact Or.inl h
  ·exact Or.inr ⟨g, cap, q1, ⟨q2, q3⟩, q3, q4⟩
 have hx : xb < wr.heap.size := (Array.getElem?_eq_some_iff.1 h.row).1
 have hB : ∀ i, ((B i ∨ wr.heap.size ≤ i) ∧ i < w1.heap.size) → w.heap.size ≤ i ∧ i < w1.heap.size ∧ ¬ X i ∧ i ≠ xb := fun i hi => by
  rcases hi.1 with q | q
  ·exact ⟨(h.blo i q).1, hi.2, (h.blo i q).2.2⟩
  ·exact ⟨Nat.le_trans h.bel.size q, hi.2, fun c => by have := h.mem.lt i c; omega, by omega⟩
 exact ⟨X, _, (h.mem.below hb).turn ht (fun i hi c => (h.xlo i hi).2 c), hp2.turn ht (fun i hi => (hB i hi).2.2.2), h.xlo, fun i hi => ⟨(hB i hi).1, Nat.lt_of_lt_of_le (hB i hi).2.1 ht.size, (hB i hi).2.2⟩, hr, h.xb0, (qab h.bel hb).trans (ht.below (fun i (hi : i = xb) => by subst hi; exact h.xb0) (qab h.bel hb).size)⟩
theorem qfn.rwrite (h : qfn w wr most xb a S n f v L) (hlen : L.length < 1000000) (x d : Nat) :
  Calls Tryz.prog 15 #[.agg #[.int .u64 S, v], .int .u64 x, .int .u64 d] wr fun e w1 => ∃ v', e = .returned (.tuple #[.agg #[.int .u64 S, v'], .int .i64 (errA S x)]) ∧ v'.oneCell' = true ∧ Below wr.heap.size wr w1 ∧
   ∀ w2, w2.heap[xb]? = some (.cells (yR most v') 34) → Turn (fun i => i = xb) w1 w2 → qfn w w2 most xb a S n f v' (if errA S x = 0 then outW x d L else L) := by
 obtain ⟨X, B, h⟩ := h
 refine (rwrite_c h.lst hlen x d).mono fun e w1 hh => ?_
 obtain ⟨v', q1, q2, q3⟩ := hh
 exact ⟨v', q1, by obtain ⟨p, c, rfl, _⟩ := q2.form; rfl, q3, fun w2 hr ht => qfn.put h q3 q2 w2 hr ht⟩
theorem qfn.write_box (h : qfn w wr most xb a S n f v L) (hn : n < 100000000) (x d : Nat) (hx : x < 18446744073709551616) (hd : d < 18446744073709551616) (o : Obj) :
  Calls Tryz.prog 11 #[.pointer (some ⟨a, 0, none⟩), .int .u64 x, .int .u64 d] (wr.alloc o) fun e w' => e = .returned (.int .i64 (errA S x)) ∧ qfn w w' most xb a S (n + 1) (wrF f S x d) v L ∧ w'.heap[wr.heap.size]? = some o := by
 obtain ⟨X, B, h⟩ := h
 have hal : Below wr.heap.size wr (wr.alloc o) := (Below.refl _ _).alloc (Nat.le_refl _) _
 have hxl : xb < wr.heap.size := (Array.getElem?_eq_some_iff.1 h.row).1
 have hsz : (wr.alloc o).heap.size = wr.heap.size + 1 := by simp
 have h' : PlayX w (wr.alloc o) most xb a S n f v L X B := ⟨h.mem.below hal, h.lst.below hal, h.xlo, fun i hi => ⟨(h.blo i hi).1, Nat.lt_of_lt_of_le (h.blo i hi).2.1 hal.size, (h.blo i hi).2.2⟩, (hal.block xb hxl).trans h.row, h.xb0, qab h.bel hal⟩
 have hnew : (wr.alloc o).heap[wr.heap.size]? = some o := heap_alloc_new _ _
 have hlt := h.mem.lt
 clear h hal
 refine (write_c h'.mem hn x d hx hd).mono fun e w' hh => ⟨hh.1, ?_, (hh.2.2.block _ (by omega) (fun c => by have := hlt _ c; omega)).trans hnew⟩
 have ht := hh.2.2
 have hxl : xb < (wr.alloc o).heap.size := (Array.getElem?_eq_some_iff.1 h'.row).1
 have hxX : ¬ X xb := fun c => (h'.xlo xb c).2 rfl
 refine ⟨Gr X (wr.alloc o) w', B, hh.2.1, h'.lst.turn ht (fun i hi => (h'.blo i hi).2.2.1), fun i hi => ?_, fun i hi => ⟨(h'.blo i hi).1, Nat.lt_of_lt_of_le (h'.blo i hi).2.1 ht.size, fun c => ?_, (h'.blo i hi).2.2.2⟩, (ht.block xb hxl hxX).trans h'.row, h'.xb0, h'.bel.trans (ht.below (fun i hi => (h'.xlo i hi).1) h'.bel.size)⟩
 ·rcases hi with hi | hi
  ·exact h'.xlo i hi
  ·exact ⟨Nat.le_trans h'.bel.size hi.1, by have := hi.1; omega⟩
 ·rcases c with c | c
  ·exact (h'.blo i hi).2.2.1 c
  ·have := (h'.blo i hi).2.1; have := c.1; omega
end
structure OpenOK (w w' : World) (x a : Nat) (most : Int) (f : Nat → Nat) (v : Value) : Prop where
 mch : ∃ X, Mch w w' X x a 61 1048576 most ⟨f, [], [], none, []⟩ ∧ ∃ L, Psl w' (fun g => w.heap.size ≤ g ∧ ¬ X g) v L ∧ Ref L f ∧ L.length ≤ 60
 bel : Below w.heap.size w w'
theorem zP37x02 {Z : Prop} (z : Z := by
 exact results_tmp_row_tmp (p := 5) (u := 4) (q := 6) rfl _ _ w.heap.size 34 _ (0, 0) _ rfl hr5 Tryz.underlying34 rfl info_X) : Z := z
theorem opened_many (n cap : Nat) (ad : Option Addr) (most : Int) (hn : 60 < n) (w : World) :
  Calls Tryz.prog 5 #[.slice ad n cap, .int .i64 most] w fun e w' => e = .returned (.tuple #[.pointer none, .agg #[.int .u64 1048576, .slice none 0 0, .int .i64 most, .slice none 0 0, .slice none 0 0, .bool false, .int .u64 0, .int .i64 0, .slice none 0 0], .bool false]) ∧ Below w.heap.size w w' := by
 have hn2 : (60 : Int) < n := by omega
 have h5 := heap_alloc_new w (.cells #[.int .u64 0, .slice none 0 0, .int .i64 0, .slice none 0 0, .slice none 0 0, .bool false, .int .u64 0, .int .i64 0, .slice none 0 0] 34)
 have hB := qac w (.cells #[.int .u64 0, .slice none 0 0, .int .i64 0, .slice none 0 0, .slice none 0 0, .bool false, .int .u64 0, .int .i64 0, .slice none 0 0] 34)
 go_enter Tryz.func5, Tryz.ntmps5
 go_upto_region 1 with fail
 generalize w.alloc (.cells #[.int .u64 0, .slice none 0 0, .int .i64 0, .slice none 0 0, .slice none 0 0, .bool false, .int .u64 0, .int .i64 0, .slice none 0 0] 34) = w0 at *
 go_wp2_with fail
 refine (_root_.Go.Proofs.YtfdbdeckohaneaaGreatDoor.new_ok 1048576 (by decide) _).mono ?_
 rintro e w1 ⟨a, rfl, -, hb⟩
 have h5b := qaa hb h5
 have hB1 := qab hB hb
 clear h5 hB hb hn
 have k9 := heap_alloc_new w1 (.cells #[.int .u64 1048576, .slice none 0 0, .int .i64 most, .slice none 0 0, .slice none 0 0, .bool false, .int .u64 0, .int .i64 0, .slice none 0 0] 34)
 have hb2 := qac w1 (.cells #[.int .u64 1048576, .slice none 0 0, .int .i64 most, .slice none 0 0, .slice none 0 0, .bool false, .int .u64 0, .int .i64 0, .slice none 0 0] 34)
 go_upto_region 4 with fail
 generalize w1.alloc (.cells #[.int .u64 1048576, .slice none 0 0, .int .i64 most, .slice none 0 0, .slice none 0 0, .bool false, .int .u64 0, .int .i64 0, .slice none 0 0] 34) = w2 at *
 have h5c := qaa hb2 h5b
 have hKY : ¬ w1.heap.size = w.heap.size := by have := qag h5b; omega
 have hB2 := qab hB1 hb2
 clear h5b hB1 hb2
 generalize w1.heap.size = KY at *
 have h5d := qaa (Below.refl _ w2).drew h5c
 obtain ⟨k0, k1, k2, k3, k4, k5, k6, k7, k8⟩ := cells9 k9
 clear k9 h5c
 obtain ⟨k0, k1, k2, k3, k4⟩ := cl5 (Below.refl _ w2).drew k0 k1 k2 k3 k4
 obtain ⟨k5, k6, k7, k8⟩ := cl4 (Below.refl _ w2).drew k5 k6 k7 k8
 refine hd9 k0 k1 k2 k3 k4 k5 k6 k7 k8 (h := fun hHeld => ?_)
 refine tk 0 32 (h := ?_)
 refine tk 1 4 (h := ?_)
 refine rd1 2 (h := fun K hK => ?_)
 refine qah rfl rfl 34 _ _ rfl w.heap.size 0 _ #[.int .u64 1048576, .slice none 0 0, .int .i64 most, .slice none 0 0, .slice none 0 0, .bool false, .int .u64 0, .int .i64 0, .slice none 0 0] rfl rfl rfl 34 _ h5d (show 0 + 9 ≤ 9 by decide) info_X (by simp [Value.oneCell']) #[.int .u64 1048576, .slice none 0 0, .int .i64 most, .slice none 0 0, .slice none 0 0, .bool false, .int .u64 0, .int .i64 0, .slice none 0 0] rfl ?_
 intro wq hr5 htq
 replace k0 := TR.qam htq hKY k0
 replace k1 := TR.qam htq hKY k1
 replace k2 := TR.qam htq hKY k2
 replace k3 := TR.qam htq hKY k3
 replace k4 := TR.qam htq hKY k4
 replace k5 := TR.qam htq hKY k5
 replace k6 := TR.qam htq hKY k6
 replace k7 := TR.qam htq hKY k7
 replace k8 := TR.qam htq hKY k8
 refine hK.out _ _ ⟨k0, k1, k2, k3, k4, k5, k6, k7, k8⟩ (fun hHeld5 => ?_)
 clear hK k0 k1 k2 k3 k4 k5 k6 k7 k8
 try simp only [Act.put, sq]
 refine tk 3 6 (h := ?_)
 refine wpAnyH_done (by kernel_rfl) ?_ _
 refine NoPanic.normal ?_
 go_wp2_with fail
 refine bodyPost_ret (v := .tuple #[.pointer none, .agg #[.int .u64 1048576, .slice none 0 0, .int .i64 most, .slice none 0 0, .slice none 0 0, .bool false, .int .u64 0, .int .i64 0, .slice none 0 0], .bool false]) ?_ rfl ⟨rfl, qaf hB2.drew htq (Nat.le_refl _)⟩
 exact zP37x02
theorem zP37x01 {Z : Prop} (z : Z := by
 obtain ⟨g, oo, rfl, hg, q1, q2⟩ := HST.out.cells i hlt
 have hA := HST.out.al i
 have hV := HST.out.vl i
 have HBA := Hid.mk (qab HBw.out hP.bel)
 have d1 := cell_later HBA.out q1
 have d2 := cell_later HBA.out q2
 clear q1 q2 hP hR hrow
 go_wp2_with fail
 refine (HP.out.write_box (by omega) (A i) (V i) hA hV _).mono ?_
 rintro e w2 ⟨rfl, hP2, hbox⟩
 obtain ⟨b0, b1, bf0, bf1⟩ := qbi hbox
 have hrow2 := hP2.row
 obtain ⟨k0, k1, -⟩ := cells9 hrow2
 have HP2 := Hid.mk hP2
 clear HP hP2 hbox hrow2 d1 d2 HBA
 go_wp2_with fail
 refine (HP2.out.rwrite (by omega) (A i) (V i)).mono ?_
 rintro e w3 ⟨v', rfl, hv1, hb3, hput⟩
 have hrow3 := qaa hb3 HP2.out.row
 have HPUT := Hid.mk hput
 clear hput hb3 HP2 b0 b1 bf0 bf1 k0 k1
 have hone : (#[.int .u64 1048576, v'] : Array Value).all (·.oneCell') = true := all_oneCell_toArray (fun u hu => by
  simp only [List.mem_cons, List.not_mem_nil, or_false] at hu
  rcases hu with rfl | rfl
  ·rfl
  ·exact hv1)
 go_wp2_with (refine qaj rfl 29 _ _ rfl KY 0 _ #[.int .u64 1048576, v'] rfl rfl rfl 34 _ hrow3 (show 0 + 2 ≤ 9 by decide) info_M hone #[.int .u64 1048576, v', .int .i64 most, .slice none 0 0, .slice none 0 0, .bool false, .int .u64 0, .int .i64 0, .slice none 0 0] rfl ?_
              intro w4 hrow4 ht4)
 refine ⟨⟨i + 1, v', _, by omega, by go_num, ?_, ?_, HPUT.out w4 hrow4 ht4⟩, by simp [intOf]; omega⟩
 ·rw [fW_succ]
  unfold wrF
  by_cases he : errA 1048576 (A i) = 0
  ·rw [if_pos he, if_pos he]; exact HR.out.write _ _
  ·rw [if_neg he, if_neg he]; exact HR.out
 ·by_cases he : errA 1048576 (A i) = 0
  ·rw [if_pos he]
   have := outW_len (A i) (V i) L
   omega
  ·rw [if_neg he]; omega) : Z := z
theorem zP37x03 {Z : Prop} (z : Z := by
 refine ⟨_, fun _ => False, hM.below (qac _ _), Or.inl ⟨rfl, rfl⟩, fun i hi => ⟨hi.1, by have := hi.2; omega⟩, fun i hi => hi.elim, heap_alloc_new _ _, hb.size, qab hb (qac _ _)⟩) : Z := z
theorem opened_ok (n cap : Nat) (ad : Option Addr) (A V : Nat → Nat) (most : Int) (hn : n ≤ 60) (m1 : 1 ≤ most) (m64 : most ≤ 64) (w : World) (hst : StepsAt w ad n A V) (hF : FA w) :
  Calls Tryz.prog 5 #[.slice ad n cap, .int .i64 most] w fun e w' => ∃ x a v, e = .returned (.tuple #[.pointer (some ⟨x, 0, none⟩), .agg #[.int .u64 1048576, v, .int .i64 most, .slice none 0 0, .slice none 0 0, .bool false, .int .u64 0, .int .i64 0, .slice none 0 0], .bool true]) ∧ OpenOK w w' x a most (fW 1048576 A V n) v := by
 have hn2 : ¬ (60 : Int) < n := by omega
 have HST := Hid.mk hst
 have HF := Hid.mk hF
 have HMM := Hid.mk (And.intro m1 m64)
 clear m1 m64 hF
 clear hst
 have h5 := heap_alloc_new w (.cells #[.int .u64 0, .slice none 0 0, .int .i64 0, .slice none 0 0, .slice none 0 0, .bool false, .int .u64 0, .int .i64 0, .slice none 0 0] 34)
 have hBw := qac w (.cells #[.int .u64 0, .slice none 0 0, .int .i64 0, .slice none 0 0, .slice none 0 0, .bool false, .int .u64 0, .int .i64 0, .slice none 0 0] 34)
 have hs0 : (w.alloc (.cells #[.int .u64 0, .slice none 0 0, .int .i64 0, .slice none 0 0, .slice none 0 0, .bool false, .int .u64 0, .int .i64 0, .slice none 0 0] 34)).heap.size = w.heap.size + 1 := by simp
 go_enter Tryz.func5, Tryz.ntmps5
 go_upto_region 1 with fail
 generalize w.alloc (.cells #[.int .u64 0, .slice none 0 0, .int .i64 0, .slice none 0 0, .slice none 0 0, .bool false, .int .u64 0, .int .i64 0, .slice none 0 0] 34) = w0 at *
 go_wp2_with fail
 refine (_root_.Go.Proofs.YtfdbdeckohaneaaGreatDoor.new_ok 1048576 (by decide) _).mono ?_
 rintro e w1 ⟨a, rfl, hM, hb⟩
 have H5 := Hid.mk h5
 have HBw := Hid.mk hBw
 have HS0 := Hid.mk hs0
 have k9 := heap_alloc_new w1 (.cells #[.int .u64 1048576, .slice none 0 0, .int .i64 most, .slice none 0 0, .slice none 0 0, .bool false, .int .u64 0, .int .i64 0, .slice none 0 0] 34)
 have hb2 := qac w1 (.cells #[.int .u64 1048576, .slice none 0 0, .int .i64 most, .slice none 0 0, .slice none 0 0, .bool false, .int .u64 0, .int .i64 0, .slice none 0 0] 34)
 have hP0 : qfn w0 (w1.alloc (.cells #[.int .u64 1048576, .slice none 0 0, .int .i64 most, .slice none 0 0, .slice none 0 0, .bool false, .int .u64 0, .int .i64 0, .slice none 0 0] 34)) most w1.heap.size a 1048576 0 (fun _ => 0) (.slice none 0 0) [] := by
  exact zP37x03
 have hk1 := hb.size
 go_upto_region 5 with fail
 generalize w1.alloc (.cells #[.int .u64 1048576, .slice none 0 0, .int .i64 most, .slice none 0 0, .slice none 0 0, .bool false, .int .u64 0, .int .i64 0, .slice none 0 0] 34) = w2 at *
 have HP0 := Hid.mk hP0
 have HK1 := Hid.mk hk1
 clear h5 hBw hs0 hM hb hb2 k9 hP0 hk1
 generalize w1.heap.size = KY at *
 go_wp2
 go_loopw [11, 35] (fun _ s35 wr => ∃ (i : Nat) (v : Value) (L : WL), i ≤ n ∧ s35 = .int .i64 i ∧ Ref L (fW 1048576 A V i) ∧ L.length ≤ i ∧ qfn w0 wr most KY a 1048576 i (fW 1048576 A V i) v L) (fun _ s35 _ => n - (intOf s35).toNat)
 case atStart => exact ⟨0, _, [], by omega, rfl, Ref.nil, Nat.le_refl _, HP0.out⟩
 case round =>
  clear HP0
  obtain ⟨i, v, L, hi, rfl, hR, hl, hP⟩ := hrel
  have hrow := hP.row
  have HP := Hid.mk hP
  have HR := Hid.mk hR
  have hxb := hP.xb0
  have hsz := hP.bel.size
  by_cases hlt : i < n
  ·have hlt2 : (i : Int) < n := by omega
   exact zP37x01
  ·obtain rfl : i = n := by omega
   have h5b : wr.heap[w.heap.size]? = some (.cells #[.int .u64 0, .slice none 0 0, .int .i64 0, .slice none 0 0, .slice none 0 0, .bool false, .int .u64 0, .int .i64 0, .slice none 0 0] 34) := (hP.bel.block _ (by have := HS0.out; omega)).trans H5.out
   have hKY : ¬ KY = w.heap.size := by have := HS0.out; omega
   obtain ⟨X, B, hPX⟩ := hP
   obtain ⟨p, c, rfl, -⟩ := hPX.lst.form
   have HPX := Hid.mk hPX
   have hlen := hl
   generalize hLN : L.length = N at *
   clear HP HR HST hlt hi
   have HR := Hid.mk hR
   clear hR
   have hlo : ∀ i, X i → w.heap.size ≤ i := fun i hi => by have := (HPX.out.xlo i hi).1; have := HS0.out; omega
   go_wp2_with fail
   refine (new_ok HPX.out.mem hlo (qab HBw.out HPX.out.bel) HF.out HMM.out.1 HMM.out.2).mono ?_
   rintro e w5 ⟨x, rfl, hM5, hb5⟩
   have HM5 := Hid.mk hM5
   have hwr : w.heap.size < wr.heap.size := qag h5b
   have h5c := qaa hb5 h5b
   have hr9 := qaa hb5 HPX.out.row
   have HPS := Hid.mk (HPX.out.lst.below hb5)
   have HB5 := Hid.mk (qab (qab HBw.out HPX.out.bel) hb5)
   have HSZ := Hid.mk (And.intro hwr hb5.size)
   clear hM5 hb5 h5b hlo hwr
   go_upto_region 12 with fail
   have h5d := qaa (Below.refl _ w5).drew h5c
   obtain ⟨k0, k1, k2, k3, k4, k5, k6, k7, k8⟩ := cells9 hr9
   clear hr9 h5c hxb hsz hrow hPX
   obtain ⟨k0, k1, k2, k3, k4⟩ := cl5 (Below.refl _ w5).drew k0 k1 k2 k3 k4
   obtain ⟨k5, k6, k7, k8⟩ := cl4 (Below.refl _ w5).drew k5 k6 k7 k8
   refine hd9 k0 k1 k2 k3 k4 k5 k6 k7 k8 (h := fun hHeld => ?_)
   refine tk 0 63 (h := ?_)
   refine tk 1 64 (h := ?_)
   refine tk 2 65 (h := ?_)
   refine tk 3 66 (h := ?_)
   refine tk 4 67 (h := ?_)
   refine tk 5 68 (h := ?_)
   refine tk 6 69 (h := ?_)
   refine tk 7 70 (h := ?_)
   refine tk 8 4 (h := ?_)
   refine rd1 9 (h := fun K hK => ?_)
   refine qah rfl rfl 34 _ _ rfl w.heap.size 0 _ #[.int .u64 1048576, .slice p N c, .int .i64 most, .slice none 0 0, .slice none 0 0, .bool false, .int .u64 0, .int .i64 0, .slice none 0 0] rfl rfl rfl 34 _ h5d (show 0 + 9 ≤ 9 by decide) info_X (by simp [Value.oneCell']) #[.int .u64 1048576, .slice p N c, .int .i64 most, .slice none 0 0, .slice none 0 0, .bool false, .int .u64 0, .int .i64 0, .slice none 0 0] rfl ?_
   intro wq hr5 htq
   replace k0 := TR.qam htq hKY k0
   replace k1 := TR.qam htq hKY k1
   replace k2 := TR.qam htq hKY k2
   replace k3 := TR.qam htq hKY k3
   replace k4 := TR.qam htq hKY k4
   replace k5 := TR.qam htq hKY k5
   replace k6 := TR.qam htq hKY k6
   replace k7 := TR.qam htq hKY k7
   replace k8 := TR.qam htq hKY k8
   refine hK.out _ _ ⟨k0, k1, k2, k3, k4, k5, k6, k7, k8⟩ (fun hHeld5 => ?_)
   clear hK k0 k1 k2 k3 k4 k5 k6 k7 k8
   try simp only [Act.put, sq]
   refine tk 10 6 (h := ?_)
   refine wpAnyH_done (by kernel_rfl) ?_ _
   refine NoPanic.normal ?_
   go_wp2_with fail
   have htd : Turn (fun i => i = w.heap.size) w5 wq := (qak _ (Below.refl _ w5).drew).trans htq (fun _ _ h => h)
   have hd : ∀ i, Gr X wr w5 i → ¬ i = w.heap.size := fun i hi c => by
    rcases hi with hi | hi
    ·have := (HPX.out.xlo i hi).1; have := HS0.out; omega
    ·have := HSZ.out.1; omega
   subst hLN
   refine bodyPost_ret (v := .tuple #[.pointer (some ⟨x, 0, none⟩), .agg #[.int .u64 1048576, .slice p L.length c, .int .i64 most, .slice none 0 0, .slice none 0 0, .bool false, .int .u64 0, .int .i64 0, .slice none 0 0], .bool true]) ?_ rfl ⟨x, a, _, rfl, ⟨⟨Gr X wr w5, (HM5.out.mono (by omega)).turn htd hd (fun i hi => Nat.le_of_eq hi.symm), L, (HPS.out.turn htd (fun i hi => by have := (HPX.out.blo i hi).1; have := HS0.out; omega)).mono (fun g hg => ⟨by have := (HPX.out.blo g hg).1; have := HS0.out; omega, fun c => by
    rcases c with c | c
    ·exact (HPX.out.blo g hg).2.2.1 c
    ·have := (HPX.out.blo g hg).2.1; omega⟩), HR.out, by omega⟩, qaf HB5.out htd (Nat.le_refl _)⟩⟩
   exact zP37x02
theorem opened_bad (n cap : Nat) (ad : Option Addr) (A V : Nat → Nat) (most : Int) (hn : n ≤ 60) (hbad : most < 1 ∨ 64 < most) (w : World) (hst : StepsAt w ad n A V) :
  Calls Tryz.prog 5 #[.slice ad n cap, .int .i64 most] w fun e w' => ∃ p N c, e = .returned (.tuple #[.pointer none, .agg #[.int .u64 1048576, .slice p N c, .int .i64 most, .slice none 0 0, .slice none 0 0, .bool false, .int .u64 0, .int .i64 0, .slice none 0 0], .bool false]) ∧ Below w.heap.size w w' := by
 have hn2 : ¬ (60 : Int) < n := by omega
 have HST := Hid.mk hst
 clear hst
 have h5 := heap_alloc_new w (.cells #[.int .u64 0, .slice none 0 0, .int .i64 0, .slice none 0 0, .slice none 0 0, .bool false, .int .u64 0, .int .i64 0, .slice none 0 0] 34)
 have hBw := qac w (.cells #[.int .u64 0, .slice none 0 0, .int .i64 0, .slice none 0 0, .slice none 0 0, .bool false, .int .u64 0, .int .i64 0, .slice none 0 0] 34)
 have hs0 : (w.alloc (.cells #[.int .u64 0, .slice none 0 0, .int .i64 0, .slice none 0 0, .slice none 0 0, .bool false, .int .u64 0, .int .i64 0, .slice none 0 0] 34)).heap.size = w.heap.size + 1 := by simp
 go_enter Tryz.func5, Tryz.ntmps5
 go_upto_region 1 with fail
 generalize w.alloc (.cells #[.int .u64 0, .slice none 0 0, .int .i64 0, .slice none 0 0, .slice none 0 0, .bool false, .int .u64 0, .int .i64 0, .slice none 0 0] 34) = w0 at *
 go_wp2_with fail
 refine (_root_.Go.Proofs.YtfdbdeckohaneaaGreatDoor.new_ok 1048576 (by decide) _).mono ?_
 rintro e w1 ⟨a, rfl, hM, hb⟩
 have H5 := Hid.mk h5
 have HBw := Hid.mk hBw
 have HS0 := Hid.mk hs0
 have k9 := heap_alloc_new w1 (.cells #[.int .u64 1048576, .slice none 0 0, .int .i64 most, .slice none 0 0, .slice none 0 0, .bool false, .int .u64 0, .int .i64 0, .slice none 0 0] 34)
 have hb2 := qac w1 (.cells #[.int .u64 1048576, .slice none 0 0, .int .i64 most, .slice none 0 0, .slice none 0 0, .bool false, .int .u64 0, .int .i64 0, .slice none 0 0] 34)
 have hP0 : qfn w0 (w1.alloc (.cells #[.int .u64 1048576, .slice none 0 0, .int .i64 most, .slice none 0 0, .slice none 0 0, .bool false, .int .u64 0, .int .i64 0, .slice none 0 0] 34)) most w1.heap.size a 1048576 0 (fun _ => 0) (.slice none 0 0) [] := by
  exact zP37x03
 have hk1 := hb.size
 go_upto_region 5 with fail
 generalize w1.alloc (.cells #[.int .u64 1048576, .slice none 0 0, .int .i64 most, .slice none 0 0, .slice none 0 0, .bool false, .int .u64 0, .int .i64 0, .slice none 0 0] 34) = w2 at *
 have HP0 := Hid.mk hP0
 have HK1 := Hid.mk hk1
 clear h5 hBw hs0 hM hb hb2 k9 hP0 hk1
 generalize w1.heap.size = KY at *
 go_wp2
 go_loopw [11, 35] (fun _ s35 wr => ∃ (i : Nat) (v : Value) (L : WL), i ≤ n ∧ s35 = .int .i64 i ∧ Ref L (fW 1048576 A V i) ∧ L.length ≤ i ∧ qfn w0 wr most KY a 1048576 i (fW 1048576 A V i) v L) (fun _ s35 _ => n - (intOf s35).toNat)
 case atStart => exact ⟨0, _, [], by omega, rfl, Ref.nil, Nat.le_refl _, HP0.out⟩
 case round =>
  clear HP0
  obtain ⟨i, v, L, hi, rfl, hR, hl, hP⟩ := hrel
  have hrow := hP.row
  have HP := Hid.mk hP
  have HR := Hid.mk hR
  have hxb := hP.xb0
  have hsz := hP.bel.size
  by_cases hlt : i < n
  ·have hlt2 : (i : Int) < n := by omega
   exact zP37x01
  ·obtain rfl : i = n := by omega
   have h5b : wr.heap[w.heap.size]? = some (.cells #[.int .u64 0, .slice none 0 0, .int .i64 0, .slice none 0 0, .slice none 0 0, .bool false, .int .u64 0, .int .i64 0, .slice none 0 0] 34) := (hP.bel.block _ (by have := HS0.out; omega)).trans H5.out
   have hKY : ¬ KY = w.heap.size := by have := HS0.out; omega
   obtain ⟨X, B, hPX⟩ := hP
   obtain ⟨p, c, rfl, -⟩ := hPX.lst.form
   have HPX := Hid.mk hPX
   have hlen := hl
   generalize hLN : L.length = N at *
   clear HP HR HST hlt hi
   go_wp2_with fail
   refine (new_bad hbad a).mono ?_
   rintro e w5 ⟨rfl, e5⟩
   obtain rfl : wr = w5 := e5
   have h5c := h5b
   have hr9 := HPX.out.row
   have HB5 := Hid.mk (qab HBw.out HPX.out.bel)
   clear h5b hbad
   go_upto_region 12 with fail
   have h5d := qaa (Below.refl _ wr).drew h5c
   obtain ⟨k0, k1, k2, k3, k4, k5, k6, k7, k8⟩ := cells9 hr9
   clear hr9 h5c hxb hsz hrow hPX hR
   obtain ⟨k0, k1, k2, k3, k4⟩ := cl5 (Below.refl _ wr).drew k0 k1 k2 k3 k4
   obtain ⟨k5, k6, k7, k8⟩ := cl4 (Below.refl _ wr).drew k5 k6 k7 k8
   refine hd9 k0 k1 k2 k3 k4 k5 k6 k7 k8 (h := fun hHeld => ?_)
   refine tk 0 63 (h := ?_)
   refine tk 1 64 (h := ?_)
   refine tk 2 65 (h := ?_)
   refine tk 3 66 (h := ?_)
   refine tk 4 67 (h := ?_)
   refine TR.qbo (i := 5) (v := undef) 68 rfl rfl (by kernel_rfl) (by kernel_rfl) (by kernel_rfl) (fun _ _ _ h => h) (Or.inr ⟨by rfl, rfl⟩) (by assumption) ?_
   try simp only [Act.put, sq]
   refine TR.qbo (i := 6) (v := undef) 69 rfl rfl (by kernel_rfl) (by kernel_rfl) (by kernel_rfl) (fun _ _ _ h => h) (Or.inr ⟨by rfl, rfl⟩) (by assumption) ?_
   try simp only [Act.put, sq]
   refine tk 7 70 (h := ?_)
   refine tk 8 4 (h := ?_)
   refine rd1 9 (h := fun K hK => ?_)
   refine qah rfl rfl 34 _ _ rfl w.heap.size 0 _ #[.int .u64 1048576, .slice p N c, .int .i64 most, .slice none 0 0, .slice none 0 0, .bool false, .int .u64 0, .int .i64 0, .slice none 0 0] rfl rfl rfl 34 _ h5d (show 0 + 9 ≤ 9 by decide) info_X (by simp [Value.oneCell']) #[.int .u64 1048576, .slice p N c, .int .i64 most, .slice none 0 0, .slice none 0 0, .bool false, .int .u64 0, .int .i64 0, .slice none 0 0] rfl ?_
   intro wq hr5 htq
   replace k0 := TR.qam htq hKY k0
   replace k1 := TR.qam htq hKY k1
   replace k2 := TR.qam htq hKY k2
   replace k3 := TR.qam htq hKY k3
   replace k4 := TR.qam htq hKY k4
   replace k5 := TR.qam htq hKY k5
   replace k6 := TR.qam htq hKY k6
   replace k7 := TR.qam htq hKY k7
   replace k8 := TR.qam htq hKY k8
   refine hK.out _ _ ⟨k0, k1, k2, k3, k4, k5, k6, k7, k8⟩ (fun hHeld5 => ?_)
   clear hK k0 k1 k2 k3 k4 k5 k6 k7 k8
   try simp only [Act.put, sq]
   refine tk 10 6 (h := ?_)
   refine wpAnyH_done (by kernel_rfl) ?_ _
   refine NoPanic.normal ?_
   go_wp2_with fail
   refine bodyPost_ret (v := .tuple #[.pointer none, .agg #[.int .u64 1048576, .slice p N c, .int .i64 most, .slice none 0 0, .slice none 0 0, .bool false, .int .u64 0, .int .i64 0, .slice none 0 0], .bool false]) ?_ rfl ⟨p, N, c, rfl, qaf HB5.out.drew htq (Nat.le_refl _)⟩
   exact zP37x02
end Go.Proofs.YtfdbdeckohaneaaGreatDoor.MM
