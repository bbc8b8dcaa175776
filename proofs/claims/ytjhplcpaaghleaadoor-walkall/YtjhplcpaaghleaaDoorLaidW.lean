/- The law's laid: words written into a new memory and into the document's. -/
import Derived.Test.YtjhplcpaaghleaaDoorWalkF
import Derived.Test.YtjhplcpaaghleaaDoorPlayS
namespace Go.Proofs.YtjhplcpaaghleaaDoor
open Go.RowKit Go.Maps

theorem results_tmp_cell_tmp {fn : Func} {p u q : Tmp} {ty : TypeId} (h : fn.results = #[.tmp u, .cell p ty, .tmp q]) (tmps : Array Value) (P : Program) (w : World) :
    (results fn tmps).run P w =
      ((asAddr (tmps.getD p undef)).run P w).andThen fun a w₁ => ((loadVar ty a).run P w₁).andThen fun v w₂ => .ok (.tuple #[tmps.getD u undef, v, tmps.getD q undef]) w₂ := by
  simp only [results, h]
  simp [Sem.run_bind, Result.andThen]
theorem results_tmp_row_tmp {P : Program} {fn : Func} {p u q : Tmp} {ty : TypeId} (h : fn.results = #[.tmp u, .cell p ty, .tmp q]) (tmps : Array Value) (w : World) (g : Nat) (t : TypeId) (cs : Array Value) (fr : Nat × Nat) (d : TypeDesc)
    (hp : tmps.getD p undef = .pointer (some ⟨g, 0, none⟩)) (hg : w.heap[g]? = some (.cells cs t fr))
    (hu : P.underlying ty = some d) (hd : (match d with | .struct _ | .array _ _ => true | _ => false) = true) (hi : (P.info? ty).map (·.size) = some cs.size) :
    (results fn tmps).run P w = .ok (.tuple #[tmps.getD u undef, .agg cs, tmps.getD q undef]) w := by
  rw [results_tmp_cell_tmp h, hp]
  simp [asAddr, run_loadVar_row w g t ty cs fr d hg hu hd hi, Result.andThen]

theorem info_M : (Tryd.prog.info? 28).map (·.size) = some 2 := by kernel_rfl

set_option maxHeartbeats 2000000 in
set_option maxRecDepth 100000 in
theorem laid_bad (S n cap : Nat) (ad : Option Addr) (hS64 : S < 18446744073709551616) (h : ¬ rightS S ∨ (rightS S ∧ 60 < n)) (w : World) :
    Calls Tryd.prog 8 #[.int .u64 S, .slice ad n cap] w fun e w' => e = .returned (.tuple #[.pointer none, .agg #[.int .u64 S, .slice none 0 0], .bool false]) ∧ Below w.heap.size w w' := by
  rcases h with h | ⟨h, hn⟩
  · go_enter Tryd.func8, Tryd.ntmps8
    go_wp2_with fail
    refine (new_bad S hS64 h _).mono ?_
    rintro e w1 ⟨rfl, rfl⟩
    clear h
    go_wp2
    have h5 := heap_alloc2_old w (.cells #[.int .u64 0, .slice none 0 0] 28) (.cells #[.int .u64 (S : Nat), .slice none 0 0] 28)
    have h9 := heap_alloc2_new w (.cells #[.int .u64 0, .slice none 0 0] 28) (.cells #[.int .u64 (S : Nat), .slice none 0 0] 28)
    have hB := below2 w (.cells #[.int .u64 0, .slice none 0 0] 28) (.cells #[.int .u64 (S : Nat), .slice none 0 0] 28)
    generalize (w.alloc (.cells #[.int .u64 0, .slice none 0 0] 28)).alloc (.cells #[.int .u64 (S : Nat), .slice none 0 0] 28) = w2 at *
    obtain ⟨c0, c1, f0, f1⟩ := row2_facts h5
    obtain ⟨d0, d1, g0, g1⟩ := row2_facts h9
    have H5 := Hid.mk h5
    have HB := Hid.mk hB
    clear h5 h9 hB
    go_region
    all_goals go_wp2
    all_goals
      refine bodyPost_ret (v := .tuple #[.pointer none, .agg #[.int .u64 (S : Nat), .slice none 0 0], .bool false]) ?_ rfl ⟨rfl, ((HB.out.setCell (p := ⟨w.heap.size, 0, none⟩) (Nat.le_refl _) _).setCell (p := ⟨w.heap.size, 1, none⟩) (Nat.le_refl _) _).drew⟩
      exact results_tmp_row_tmp (p := 5) (u := 4) (q := 6) rfl _ _ w.heap.size 28 _ (0, 0) _ rfl (row2' _ _ H5.out) Tryd.underlying28 rfl info_M
  · obtain ⟨hr1, hr2, hr3⟩ := h
    have hn2 : (60 : Int) < n := by omega
    go_enter Tryd.func8, Tryd.ntmps8
    go_wp2_with fail
    refine (new_ok S ⟨hr1, hr2, hr3⟩ _).mono ?_
    rintro e w1 ⟨a, rfl, hM, hb⟩
    have hb1 := hb.size
    simp at hb1
    have h5 := block_later hb (heap_alloc_new w (.cells #[.int .u64 0, .slice none 0 0] 28))
    have hB := below_tr (below_new w _) hb
    clear hr1 hr2 hr3 hM hb hn
    go_wp2
    have k5 := block_later (below_new w1 (.cells #[.int .u64 (S : Nat), .slice none 0 0] 28)) h5
    have k9 := heap_alloc_new w1 (.cells #[.int .u64 (S : Nat), .slice none 0 0] 28)
    have hB2 := below_tr hB (below_new w1 (.cells #[.int .u64 (S : Nat), .slice none 0 0] 28))
    generalize w1.alloc (.cells #[.int .u64 (S : Nat), .slice none 0 0] 28) = w2 at *
    obtain ⟨c0, c1, f0, f1⟩ := row2_facts k5
    obtain ⟨d0, d1, g0, g1⟩ := row2_facts k9
    have H5 := Hid.mk k5
    have HB := Hid.mk hB2
    clear h5 hB k5 k9 hB2
    go_region
    all_goals go_wp2
    all_goals
      refine bodyPost_ret (v := .tuple #[.pointer none, .agg #[.int .u64 (S : Nat), .slice none 0 0], .bool false]) ?_ rfl ⟨rfl, ((HB.out.setCell (p := ⟨w.heap.size, 0, none⟩) (Nat.le_refl _) _).setCell (p := ⟨w.heap.size, 1, none⟩) (Nat.le_refl _) _).drew⟩
      exact results_tmp_row_tmp (p := 5) (u := 4) (q := 6) rfl _ _ w.heap.size 28 _ (0, 0) _ rfl (row2' _ _ H5.out) Tryd.underlying28 rfl info_M

/-- What laid left: a memory and the document's, new since w. -/
structure LaidOK (w w' : World) (a S : Nat) (f : Nat → Nat) (v : Value) : Prop where
  mem : ∃ X, MemAt w' X a S 61 f ∧ ∀ i, X i → w.heap.size ≤ i
  lst : ∃ L, Psl w' (fun g => w.heap.size ≤ g) v L ∧ Ref L f ∧ L.length ≤ 60
  bel : Below w.heap.size w w'

theorem laid_end {w w0 wr w4 : World} {xb a S n : Nat} {f : Nat → Nat} {v : Value} {L : WL} (h : PlayS w0 wr xb a S n f v L) (hs0 : w0.heap.size = w.heap.size + 1) (hBw : Below w.heap.size w w0) (hR : Ref L f) (hl : L.length ≤ 60) (hn : n ≤ 61) (ht : Turn (fun i => i = w.heap.size) wr w4) : LaidOK w w4 a S f v := by
  obtain ⟨X, B, h⟩ := h
  refine ⟨⟨X, ?_, fun i hi => by have := (h.xlo i hi).1; omega⟩, ⟨L, ?_, hR, hl⟩, below_turn (below_tr hBw h.bel) ht (Nat.le_refl _)⟩
  · obtain ⟨mb, pg, hm⟩ := h.mem.turn ht (fun i hi (c : i = w.heap.size) => by have := (h.xlo i hi).1; omega)
    exact ⟨mb, pg, { hm with pgs := hm.pgs.mono hn }⟩
  · exact (h.lst.turn ht (fun i hi (c : i = w.heap.size) => by have := (h.blo i hi).1; omega)).mono (fun g hg => by have := (h.blo g hg).1; omega)
theorem Turn.drew {X : Nat → Prop} {w w' : World} (h : Turn X w w') : Turn X w w'.drew := ⟨h.os, h.tape, h.output, h.size, h.block⟩

set_option maxHeartbeats 4000000 in
set_option maxRecDepth 100000 in
theorem laid_ok (S n cap : Nat) (ad : Option Addr) (A V : Nat → Nat) (hr : rightS S) (hn : n ≤ 60) (w : World) (hst : StepsAt w ad n A V) :
    Calls Tryd.prog 8 #[.int .u64 S, .slice ad n cap] w fun e w' => ∃ a v, e = .returned (.tuple #[.pointer (some ⟨a, 0, none⟩), .agg #[.int .u64 S, v], .bool true]) ∧ LaidOK w w' a S (fW S A V n) v := by
  have hn2 : ¬ (60 : Int) < n := by omega
  obtain ⟨hr1, hr2, hr3⟩ := hr
  have HST := Hid.mk hst
  clear hst
  go_enter Tryd.func8, Tryd.ntmps8
  go_wp2_with fail
  refine (new_ok S ⟨hr1, hr2, hr3⟩ _).mono ?_
  rintro e w1 ⟨a, rfl, hM, hb⟩
  have h5 := block_later hb (heap_alloc_new w (.cells #[.int .u64 0, .slice none 0 0] 28))
  have hBw := below_new w (.cells #[.int .u64 0, .slice none 0 0] 28)
  have hs0 : (w.alloc (.cells #[.int .u64 0, .slice none 0 0] 28)).heap.size = w.heap.size + 1 := by simp
  generalize w.alloc (.cells #[.int .u64 0, .slice none 0 0] 28) = w0 at *
  have hP0 : PlayS w0 (w1.alloc (.cells #[.int .u64 (S : Nat), .slice none 0 0] 28)) w1.heap.size a S 0 (fun _ => 0) (.slice none 0 0) [] := by
    refine ⟨_, fun _ => False, hM.below (below_new _ _), Or.inl ⟨rfl, rfl⟩, fun i hi => ⟨hi.1, by have := hi.2; omega⟩, fun i hi => hi.elim, heap_alloc_new _ _, hb.size, below_tr hb (below_new _ _)⟩
  have HP0 := Hid.mk hP0
  have HBw := Hid.mk hBw
  have H5 : Hid (w0.heap[w.heap.size]? = some (.cells #[.int .u64 0, .slice none 0 0] 28)) := by
    show w0.heap[w.heap.size]? = _
    rw [← hb.block w.heap.size (by omega)]; exact h5
  clear hr1 hr2 hr3 hM hb h5 hP0 hBw
  go_wp2
  go_loopw [33] (fun s33 wr => ∃ (i : Nat) (v : Value) (L : WL), i ≤ n ∧ s33 = .int .i64 (i : Nat) ∧ Ref L (fW S A V i) ∧ L.length ≤ i ∧ PlayS w0 wr w1.heap.size a S i (fW S A V i) v L) (fun s33 _ => n - (intOf s33).toNat)
  case atStart => exact ⟨0, _, [], by omega, rfl, Ref.nil, Nat.le_refl _, HP0.out⟩
  case round =>
    clear HP0
    obtain ⟨i, v, L, hi, rfl, hR, hl, hP⟩ := hrel
    have hrow := hP.row
    have HP := Hid.mk hP
    have HR := Hid.mk hR
    have hxb := hP.xb0
    have hsz := hP.bel.size
    by_cases hlt : i < n
    · have hlt2 : (i : Int) < n := by omega
      obtain ⟨g, o, rfl, hg, q1, q2⟩ := HST.out.cells i hlt
      have hA := HST.out.al i
      have hV := HST.out.vl i
      have HBA := Hid.mk (below_tr HBw.out hP.bel)
      have d1 := cell_later HBA.out q1
      have d2 := cell_later HBA.out q2
      have hgl : g ≠ w1.heap.size := by omega
      obtain ⟨c0, c1, f0, f1⟩ := row2_facts hrow
      clear q1 q2 hP hR hrow
      go_wp2_with fail
      refine (HP.out.write_box (by omega) (A i) (V i) hA hV _).mono ?_
      rintro e w2 ⟨rfl, hP2, hbox⟩
      obtain ⟨b0, b1, bf0, bf1⟩ := row2_facts hbox
      have hrow2 := hP2.row
      obtain ⟨c0, c1, f0, f1⟩ := row2_facts hrow2
      have HP2 := Hid.mk hP2
      clear HP hP2 hbox hrow2 d1 d2 HBA
      go_wp2_with fail
      refine (HP2.out.rwrite (by omega) (A i) (V i)).mono ?_
      rintro e w3 ⟨v', rfl, hv1, hb3, hput⟩
      have hrow3 := block_later hb3 HP2.out.row
      have HPUT := Hid.mk hput
      clear hput hb3 HP2 b0 b1 bf0 bf1 c0 c1 f0 f1
      have hone : (#[.int .u64 (S : Nat), v'] : Array Value).all (·.oneCell') = true := all_oneCell_toArray (fun u hu => by
        simp only [List.mem_cons, List.not_mem_nil, or_false] at hu
        rcases hu with rfl | rfl
        · rfl
        · exact hv1)
      go_wp2_with (refine wpList_store_seg rfl 28 _ _ rfl w1.heap.size 0 _ #[.int .u64 (S : Nat), v'] rfl rfl rfl 28 _ hrow3 (Nat.le_refl 2) info_M hone #[.int .u64 (S : Nat), v'] rfl ?_
                   intro w4 hrow4 ht4)
      refine ⟨⟨i + 1, v', _, by omega, by go_num, ?_, ?_, HPUT.out w4 hrow4 ht4⟩, by simp [intOf]; omega⟩
      · rw [fW_succ]
        unfold wrF
        by_cases he : errA S (A i) = 0
        · rw [if_pos he, if_pos he]; exact HR.out.write _ _
        · rw [if_neg he, if_neg he]; exact HR.out
      · by_cases he : errA S (A i) = 0
        · rw [if_pos he]
          have := outW_len (A i) (V i) L
          omega
        · rw [if_neg he]; omega
    · obtain rfl : i = n := by omega
      have hv1 : v.oneCell' = true := by
        obtain ⟨X, B, h⟩ := hP
        obtain ⟨p, c, rfl, _⟩ := h.lst.form
        rfl
      have hsize : w.heap.size < wr.heap.size := by omega
      have hr5 : wr.heap[w.heap.size]? = some (.cells #[.int .u64 0, .slice none 0 0] 28) := (hP.bel.block _ (by omega)).trans H5.out
      obtain ⟨p, c, hv⟩ : ∃ p c, v = .slice p L.length c := by
        obtain ⟨X, B, h⟩ := hP
        obtain ⟨p, c, rfl, _⟩ := h.lst.form
        exact ⟨p, c, rfl⟩
      obtain ⟨c0, c1, f0, f1⟩ := row2_facts hrow
      obtain ⟨d0, d1, g0, g1⟩ := row2_facts hr5
      have H6 := Hid.mk hr5
      have HL := Hid.mk (laid_end (w4 := ((wr.setCell ⟨w.heap.size, 0, none⟩ (.int .u64 (S : Nat))).setCell ⟨w.heap.size, 1, none⟩ v).drew) hP hs0 HBw.out hR (by omega) (by omega) (turn_set2 _ _ _ _).drew)
      subst hv
      generalize L.length = N at *
      clear hP hR hrow hr5 HP HR HST
      go_wp2
      go_region
      all_goals go_wp2
      all_goals
        refine bodyPost_ret (v := .tuple #[.pointer (some ⟨a, 0, none⟩), .agg #[.int .u64 (S : Nat), .slice p N c], .bool true]) ?_ rfl ⟨a, _, rfl, HL.out⟩
        exact results_tmp_row_tmp (p := 5) (u := 4) (q := 6) rfl _ _ w.heap.size 28 _ (0, 0) _ rfl (row2' _ _ H6.out) Tryd.underlying28 rfl info_M
end Go.Proofs.YtjhplcpaaghleaaDoor
