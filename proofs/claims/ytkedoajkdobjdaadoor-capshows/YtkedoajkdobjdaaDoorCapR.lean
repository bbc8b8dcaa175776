/- Capabilities: Show. -/
import Derived.Test.YtkedoajkdobjdaaDoorCapP
import Derived.Test.YtkedoajkdobjdaaDoorCapShelf
import Derived.Test.YtkedoajkdobjdaaDoorShWalks
import Derived.Lib.OthersKept
set_option linter.unusedVariables false
namespace Go.Proofs.YtkedoajkdobjdaaDoor
open Go.RowKit Go.Lib

/-- What is told of one part. -/
def nmJ (j : Nat) : List UInt8 := [[97, 116], [98, 105, 116, 115], [114, 105, 103, 104, 116, 115], [103, 117, 97, 114, 100], [97, 115, 105, 100], [109, 97, 114, 107]].getD j []
def vlJ (a b r g s m j : Nat) : Nat := [a, b, r, g, s, m].getD j 0
def pcL (l : List UInt8) (n : Nat) : List UInt8 := if n = 0 then [] else 32 :: (l ++ 61 :: (showB n).data.toList)
/-- The text behind the first j parts. -/
def shS (nm : List UInt8) (a b r g s m : Nat) : Nat → List UInt8
  | 0 => nm
  | j + 1 => shS nm a b r g s m j ++ pcL (nmJ j) (vlJ a b r g s m j)
theorem showB_size (n : Nat) : (showB n).size ≤ 18 := by
  have h := hexL_len n
  show (((showL n).map (·.toUInt8)).toArray).size ≤ 18
  unfold showL
  split
  · simp
  · simp; omega
theorem showB_len (n : Nat) : (showB n).data.toList.length ≤ 18 := showB_size n
theorem nmJ_len (j : Nat) : (nmJ j).length ≤ 6 := by
  unfold nmJ
  match j with
  | 0 => decide
  | 1 => decide
  | 2 => decide
  | 3 => decide
  | 4 => decide
  | 5 => decide
  | _ + 6 => simp
theorem pcL_len (j n : Nat) : (pcL (nmJ j) n).length ≤ 26 := by
  have h1 := showB_len n
  have h2 := nmJ_len j
  unfold pcL
  split
  · simp
  · simp; simp at h1; omega
theorem shS_len (nm : List UInt8) (a b r g s m : Nat) : ∀ j, (shS nm a b r g s m j).length ≤ nm.length + 26 * j
  | 0 => Nat.le_refl _
  | j + 1 => by
    have h1 := shS_len nm a b r g s m j
    have h2 := pcL_len j (vlJ a b r g s m j)
    show (shS nm a b r g s m j ++ pcL (nmJ j) (vlJ a b r g s m j)).length ≤ _
    rw [List.length_append]; omega
/-- A Builder that holds bytes. -/
structure BL (b : Nat) (l : List UInt8) (w : World) : Prop where
  h : IsBuilderF 79 5 b b (byteCells l) w
theorem BL.later {b : Nat} {l : List UInt8} {w w' : World} (h : BL b l w) (hb : Below w.heap.size w w') : BL b l w' := by
  refine ⟨?_⟩
  rcases h.h with ⟨hB, v, h1, h2, h3⟩ | ⟨hB, v, h1, h2, h3⟩
  · exact Or.inl ⟨hB, v, block_later hb h1, h2.kept (row := none) ⟨hb.os, hb.tape, hb.output, hb.size, fun k hk _ => hb.block k hk⟩ (by cases hq : v.ownBlock <;> simp), h3⟩
  · exact Or.inr ⟨hB, v, block_later hb h1, h2.kept (row := none) ⟨hb.os, hb.tape, hb.output, hb.size, fun k hk _ => hb.block k hk⟩ (by cases hq : v.ownBlock <;> simp), h3⟩
theorem BL.lt {b : Nat} {l : List UInt8} {w : World} (h : BL b l w) : b < w.heap.size := by
  rcases h.h with ⟨hB, v, h1, -⟩ | ⟨hB, v, h1, -⟩
  · exact block_lt h1
  · exact block_lt h1
theorem size_list (s : ByteArray) : s.size = s.data.toList.length := rfl
theorem strCells_eq (s : ByteArray) : strCells s = byteCells s.data.toList := rfl
theorem byteCells_app (l q : List UInt8) : byteCells l ++ byteCells q = byteCells (l ++ q) := by simp [byteCells]
theorem partS (cs : Array Value) (i : Nat) (x y : Value) (h : cs.extract i (i + 2) = #[x, y]) (w : World) : (part 84 cs i).run Tryd.prog w = .ok (.agg #[x, y]) w := by
  simp [part, Tryd.isAgg84, Tryd.sizeOf84, Sem.run_bind, Result.andThen, h]
theorem ixS (cs : Array Value) (i : Nat) (x y : Value) (hi : i < 6) (h : cs.extract (i * 2) (i * 2 + 2) = #[x, y]) (w : World) : (Instr.index 85 (.agg cs) (.int .i64 (i : Int))).run Tryd.prog w = .ok (.agg #[x, y]) w := by
  simp [Instr.index, run_underlying Tryd.underlying85, Sem.run_bind, asIntOf, Result.andThen, hi, Tryd.sizeOf84]
  exact partS cs _ x y h w
/-- What the rounds keep. -/
structure ShI (nm : List UInt8) (a b r g s m : Nat) (w1 : World) (j : Nat) (wr : World) : Prop where
  bl : BL w1.heap.size (shS nm a b r g s m j) wr
  bel : Below w1.heap.size w1 wr

set_option maxRecDepth 100000 in
set_option maxHeartbeats 16000000 in
theorem showC_any {k a b r g s m : Nat} (hR : Rt k a b r g s m) (hc : cB k a b r g s m = true) (hk : k ≤ 10) (w : World) (hN : Nms w) (hT : Tz w) :
    Calls Tryd.prog 30 #[.agg #[.int .i64 (k : Nat), .int .u64 (a : Nat), .int .i64 (b : Nat), .int .i64 (r : Nat), .int .i64 (g : Nat), .int .i64 (s : Nat), .int .u64 (m : Nat)]] w fun e w' => e = .returned (.tuple #[.string ⟨(shS (nmV k).data.toList a b r g s m 6).toArray⟩, .int .i64 0]) ∧ Below w.heap.size w w' := by
  have cR := fun w1 => cright_any k a b r g s m (by have := hR.qa; omega) hR.qm w1
  rw [hc] at cR
  obtain ⟨q1, q2, q3, q4, q5, q6, q7, q8⟩ := hR
  have cN := fun w1 h1 => name_in k hk w1 h1
  have hns : (nmV k).data.toList.length ≤ 8 := by
    have h2 : ∀ i : Fin 11, (nmL.getD i.val ⟨#[]⟩).data.toList.length ≤ 8 := by decide
    exact h2 ⟨k, by omega⟩
  have e2 : IntKind.u64.wrap (b : Int) = (b : Int) := by rw [IntKind.wrap_u64]; omega
  have e3 : IntKind.u64.wrap (r : Int) = (r : Int) := by rw [IntKind.wrap_u64]; omega
  have e4 : IntKind.u64.wrap (g : Int) = (g : Int) := by rw [IntKind.wrap_u64]; omega
  have e5 : IntKind.u64.wrap (s : Int) = (s : Int) := by rw [IntKind.wrap_u64]; omega
  have HL := Hid.mk (fun j => shS_len (nmV k).data.toList a b r g s m j)
  have HB : Hid (a < 18446744073709551616 ∧ b < 18446744073709551616 ∧ r < 18446744073709551616 ∧ g < 18446744073709551616 ∧ s < 18446744073709551616 ∧ m < 18446744073709551616) := Hid.mk ⟨by omega, by omega, by omega, by omega, by omega, by omega⟩
  have HNS := Hid.mk hns
  have HX := ixS
  clear q1 q2 q3 q4 q5 q6 q7 q8 hc hk hns
  go_enter Tryd.func30, Tryd.ntmps30
  go_wp2_with fail
  refine (cR _).mono ?_
  rintro e w1 ⟨rfl, hb⟩
  have gC := block_later hb (heap_alloc_new _ _)
  have hB1 := below_tr (below_new _ _) hb
  clear hb cR
  obtain ⟨c0, c1, c2, c3, c4, c5, c6⟩ := cells7 gC
  have cp0 := fun o => cell_alloc (o := o) c0
  go_wp2_with fail
  have gW : BL w1.heap.size [] (w1.alloc (.cells #[.pointer none, .slice none 0 0] 79)) := ⟨Or.inl ⟨Nat.le_refl _, .slice none 0 0, heap_alloc_new _ _, ⟨rfl, Or.inl ⟨rfl, rfl⟩⟩, by simp [Value.ownBlock]⟩⟩
  have hB2 := below_new w1 (.cells #[.pointer none, .slice none 0 0] 79)
  have hlt := block_lt gC
  replace gC := block_later hB2 gC
  clear c0 c1 c2 c3 c4 c5 c6 cp0
  generalize w1.alloc (.cells #[.pointer none, .slice none 0 0] 79) = wv at *
  refine (cN _ ((hN.later hB1).later hB2)).mono ?_
  rintro e w2 ⟨rfl, rfl⟩
  go_wp2_with fail
  refine (Tryd.Builder_WriteString_k w1.heap.size w1.heap.size _ (nmV k) _ gW.h (by have := HNS.out; show 0 + (nmV k).size ≤ _; show 0 + (nmV k).data.toList.length ≤ _; omega) (Nat.le_of_lt gW.lt)).mono ?_
  rintro e w3 ⟨rfl, hA, hb3, hO⟩
  have gC3 := hO _ _ gC (by intro q; have := Option.some.inj q; omega) (fun c fz e => by cases e)
  have hB3 := hB2.trans hb3
  have gW3 : BL w1.heap.size (nmV k).data.toList w3 := ⟨Or.inr hA⟩
  obtain ⟨c0, c1, c2, c3, c4, c5, c6⟩ := cells7 gC3
  clear gC gW hB2 hb3 hA hO cN
  go_wp2
  go_loopw [37] (fun i wr => ∃ j : Nat, j ≤ 6 ∧ i = .int .i64 (j : Int) ∧ ShI (nmV k).data.toList a b r g s m w1 j wr) (fun i _ => 6 - (RowKit.intOf i).toNat)
  case atStart => exact ⟨0, by omega, rfl, gW3, hB3⟩
  case round =>
    clear c0 c1 c2 c3 c4 c5 c6 gC3 hB3 gW3
    obtain ⟨j, hj, rfl, hI⟩ := hrel
    have HI := Hid.mk hI
    clear hI
    obtain rfl | rfl | rfl | rfl | rfl | rfl | rfl : j = 0 ∨ j = 1 ∨ j = 2 ∨ j = 3 ∨ j = 4 ∨ j = 5 ∨ j = 6 := by omega
    · by_cases hz : a = 0
      · have HZ : Hid (shS (nmV k).data.toList a b r g s m 1 = shS (nmV k).data.toList a b r g s m 0) := by
          show shS _ a b r g s m 0 ++ pcL (nmJ 0) (vlJ a b r g s m 0) = _
          rw [show vlJ a b r g s m 0 = a from rfl, show pcL (nmJ 0) a = [] by unfold pcL; rw [if_pos hz], List.append_nil]
        have dz : ((a : Int) != 0) = false := by rw [bne_eq_false_iff_eq]; omega
        clear hz
        go_wp2_with (first | (refine wpList_index rfl 85 _ _ rfl (.agg #[.string ⟨#[97, 116]⟩, .int .u64 (a : Nat)]) (HX #[.string ⟨#[97, 116]⟩, .int .u64 (a : Nat), .string ⟨#[98, 105, 116, 115]⟩, .int .u64 (b : Nat), .string ⟨#[114, 105, 103, 104, 116, 115]⟩, .int .u64 (r : Nat), .string ⟨#[103, 117, 97, 114, 100]⟩, .int .u64 (g : Nat), .string ⟨#[97, 115, 105, 100]⟩, .int .u64 (s : Nat), .string ⟨#[109, 97, 114, 107]⟩, .int .u64 (m : Nat)] 0 (.string ⟨#[97, 116]⟩) (.int .u64 (a : Nat)) (by decide) rfl _) ?_) | fail)
        exact ⟨⟨1, by omega, by go_num, ⟨by rw [HZ.out]; exact HI.out.bl.later (below_new _ _), HI.out.bel.alloc HI.out.bel.size _⟩⟩, by simp [RowKit.intOf]⟩
      · have HZ : Hid (shS (nmV k).data.toList a b r g s m 1 = shS (nmV k).data.toList a b r g s m 0 ++ ([32, 97, 116, 61] ++ (showB a).data.toList)) := by
          show shS _ a b r g s m 0 ++ pcL (nmJ 0) (vlJ a b r g s m 0) = _
          rw [show vlJ a b r g s m 0 = a from rfl, show pcL (nmJ 0) a = [32, 97, 116, 61] ++ (showB a).data.toList by unfold pcL; rw [if_neg hz]; rfl]
        have dz : ((a : Int) != 0) = true := by rw [bne_iff_ne]; omega
        have dz2 : ((a : Int) == 0) = false := by rw [beq_eq_false_iff_ne]; omega
        have cS := fun w2 h2 => show_any a HB.out.1 w2 h2
        have hss : ¬ 9223372036854775807 < 4 + (showB a).size := by have := showB_size a; omega
        go_upto_region 8 with (first | (refine wpList_index rfl 85 _ _ rfl (.agg #[.string ⟨#[97, 116]⟩, .int .u64 (a : Nat)]) (HX #[.string ⟨#[97, 116]⟩, .int .u64 (a : Nat), .string ⟨#[98, 105, 116, 115]⟩, .int .u64 (b : Nat), .string ⟨#[114, 105, 103, 104, 116, 115]⟩, .int .u64 (r : Nat), .string ⟨#[103, 117, 97, 114, 100]⟩, .int .u64 (g : Nat), .string ⟨#[97, 115, 105, 100]⟩, .int .u64 (s : Nat), .string ⟨#[109, 97, 114, 107]⟩, .int .u64 (m : Nat)] 0 (.string ⟨#[97, 116]⟩) (.int .u64 (a : Nat)) (by decide) rfl _) ?_) | fail)
        have gS := heap_alloc_new wr (.cells #[.string ⟨#[97, 116]⟩, .int .u64 (a : Nat)] 84)
        have hBL := HI.out.bl.later (below_new wr (.cells #[.string ⟨#[97, 116]⟩, .int .u64 (a : Nat)] 84))
        have hBe : Below w1.heap.size w1 (wr.alloc (.cells #[.string ⟨#[97, 116]⟩, .int .u64 (a : Nat)] 84)) := HI.out.bel.alloc HI.out.bel.size _
        have hne : w1.heap.size < wr.heap.size := HI.out.bl.lt
        generalize wr.heap.size = gs at *
        generalize wr.alloc (.cells #[.string ⟨#[97, 116]⟩, .int .u64 (a : Nat)] 84) = wv at *
        have k0 : wv.cell? ⟨gs, 0, none⟩ = some (.string ⟨#[97, 116]⟩) := by rw [cell_of_row _ _ _ _ _ _ gS]; rfl
        have k1 : wv.cell? ⟨gs, 1, none⟩ = some (.int .u64 (a : Nat)) := by rw [cell_of_row _ _ _ _ _ _ gS]; rfl
        go_upto_region 9 with fail
        replace hBL := Hid.mk hBL
        have hB := hBe
        clear hBe
        refine wp_region_noPanic ?_
        refine wp_region_held_drew (S := (fun w' => w'.cell? ⟨gs, 0, none⟩ = some (.string ⟨#[97, 116]⟩) ∧ w'.cell? ⟨gs, 1, none⟩ = some (.int .u64 (a : Nat)))) (by kernel_rfl) ?_ (fun hHeld => ?_)
        · exact ⟨cell_later (Below.refl _ _).drew k0, cell_later (Below.refl _ _).drew k1⟩
        replace k0 := cell_later (Below.refl _ wv).drew k0
        replace k1 := cell_later (Below.refl _ wv).drew k1
        replace gS := block_later (Below.refl _ wv).drew gS
        replace hBL := Hid.mk (hBL.out.later (Below.refl _ wv).drew)
        replace hB := below_tr hB (Below.refl _ wv).drew
        generalize wv.drew = Wd at *
        refine take_at (i := 0) (v := ?_) 43 rfl rfl (by kernel_rfl) (by kernel_rfl) (by kernel_rfl) (fun _ _ _ h => h) (Or.inl ⟨by rfl, ?_⟩) (by assumption) ?_
        rotate_left
        · (intro w' hSw; (try dsimp only at hSw); go_simp; all_goals with_reducible rfl)
        try simp only [Act.put, List.setIfInBounds_toArray, List.set_cons_zero, List.set_cons_succ]
        refine take_at (i := 1) (v := ?_) 44 rfl rfl (by kernel_rfl) (by kernel_rfl) (by kernel_rfl) (fun _ _ _ h => h) (Or.inl ⟨by rfl, ?_⟩) (by assumption) ?_
        rotate_left
        · (intro w' hSw; (try dsimp only at hSw); go_simp; all_goals with_reducible rfl)
        try simp only [Act.put, List.setIfInBounds_toArray, List.set_cons_zero, List.set_cons_succ]
        refine take_at (i := 2) (v := ?_) 45 rfl rfl (by kernel_rfl) (by kernel_rfl) (by kernel_rfl) (fun _ _ _ h => h) (Or.inl ⟨by rfl, ?_⟩) (by assumption) ?_
        rotate_left
        · (intro w' hSw; (try dsimp only at hSw); go_simp; all_goals with_reducible rfl)
        try simp only [Act.put, List.setIfInBounds_toArray, List.set_cons_zero, List.set_cons_succ]
        refine take_at (i := 3) (v := ?_) 46 rfl rfl (by kernel_rfl) (by kernel_rfl) (by kernel_rfl) (fun _ _ _ h => h) (Or.inl ⟨by rfl, ?_⟩) (by assumption) ?_
        rotate_left
        · (intro w' hSw; (try dsimp only at hSw); go_simp; all_goals with_reducible rfl)
        try simp only [Act.put, List.setIfInBounds_toArray, List.set_cons_zero, List.set_cons_succ]
        refine take_at (i := 4) (v := ?_) 47 rfl rfl (by kernel_rfl) (by kernel_rfl) (by kernel_rfl) (fun _ _ _ h => h) (Or.inl ⟨by rfl, ?_⟩) (by assumption) ?_
        rotate_left
        · (intro w' hSw; (try dsimp only at hSw); go_simp; all_goals with_reducible rfl)
        try simp only [Act.put, List.setIfInBounds_toArray, List.set_cons_zero, List.set_cons_succ]
        refine take_at (i := 5) (v := ?_) 48 rfl rfl (by kernel_rfl) (by kernel_rfl) (by kernel_rfl) (fun _ _ _ h => h) (Or.inl ⟨by rfl, ?_⟩) (by assumption) ?_
        rotate_left
        · (intro w' hSw; (try dsimp only at hSw); go_simp; all_goals with_reducible rfl)
        try simp only [Act.put, List.setIfInBounds_toArray, List.set_cons_zero, List.set_cons_succ]
        refine wpAnyH_ready (rs := [6]) (by kernel_rfl) (by simp) ?_
        refine AllReadyH.cons rfl (fun K hK => ?_) AllReadyH.nil
        go_simp
        refine (cS _ (hT.later (below_tr hB1 hB))).mono ?_
        rintro e wc1 ⟨rfl, hb⟩
        go_wp2_with fail
        replace k0 := cell_later hb k0
        replace k1 := cell_later hb k1
        replace gS := block_later hb gS
        replace hBL := Hid.mk (hBL.out.later hb)
        replace hB := below_tr hB hb
        clear hb
        refine hK.out _ _ ⟨k0, k1⟩ (fun hHeldq1 => ?_)
        clear hK
        try simp only [Act.put, List.setIfInBounds_toArray, List.set_cons_zero, List.set_cons_succ]
        refine take_at (i := 7) (v := ?_) 50 rfl rfl (by kernel_rfl) (by kernel_rfl) (by kernel_rfl) (fun _ _ _ h => h) (Or.inl ⟨by rfl, ?_⟩) (by assumption) ?_
        rotate_left
        · (intro w' hSw; (try dsimp only at hSw); go_simp; all_goals with_reducible rfl)
        try simp only [Act.put, List.setIfInBounds_toArray, List.set_cons_zero, List.set_cons_succ]
        have hSL : (⟨#[32]⟩ ++ ⟨#[97, 116]⟩ ++ ⟨#[61]⟩ ++ showB a : ByteArray).data.toList = [32, 97, 116, 61] ++ (showB a).data.toList := by simp [ByteArray.data_append]
        have hln : (byteCells (shS (nmV k).data.toList a b r g s m 0)).length + (⟨#[32]⟩ ++ ⟨#[97, 116]⟩ ++ ⟨#[61]⟩ ++ showB a : ByteArray).size ≤ 140737488355328 := by
          have h1 := HL.out 0
          have h2 := HNS.out
          have h3 := showB_len a
          have h4 := congrArg List.length hSL
          rw [List.length_append] at h4
          have h5 : (byteCells (shS (nmV k).data.toList a b r g s m 0)).length = (shS (nmV k).data.toList a b r g s m 0).length := by simp [byteCells]
          have h7 : ([32, 97, 116, 61] : List UInt8).length = 4 := rfl
          rw [h5, size_list, h4, h7]; omega
        generalize (⟨#[32]⟩ ++ ⟨#[97, 116]⟩ ++ ⟨#[61]⟩ ++ showB a : ByteArray) = S at *
        refine wpAnyH_ready (rs := [8]) (by kernel_rfl) (by simp) ?_
        refine AllReadyH.cons rfl (fun K hK => ?_) AllReadyH.nil
        go_simp
        refine (Tryd.Builder_WriteString_k w1.heap.size w1.heap.size _ S _ hBL.out.h hln hB.size).mono ?_
        rintro e wc2 ⟨rfl, hA, hb8, hO⟩
        rw [strCells_eq, hSL, byteCells_app] at hA
        go_wp2_with fail
        have gS2 := hO _ _ gS (by intro q; have := Option.some.inj q; omega) (fun c fz e => by cases e)
        replace k0 : wc2.cell? ⟨gs, 0, none⟩ = some (.string ⟨#[97, 116]⟩) := by rw [cell_of_row _ _ _ _ _ _ gS2]; rfl
        replace k1 : wc2.cell? ⟨gs, 1, none⟩ = some (.int .u64 (a : Nat)) := by rw [cell_of_row _ _ _ _ _ _ gS2]; rfl
        refine hK.out _ _ ⟨k0, k1⟩ (fun hHeldq2 => ?_)
        clear hK
        try simp only [Act.put, List.setIfInBounds_toArray, List.set_cons_zero, List.set_cons_succ]
        refine wpAnyH_done (by kernel_rfl) ?_ _
        refine NoPanic.normal ?_
        go_wp2
        exact ⟨⟨1, by omega, by go_num, ⟨by rw [HZ.out]; exact ⟨Or.inr hA⟩, hB.trans hb8⟩⟩, by simp [RowKit.intOf]⟩
    · by_cases hz : b = 0
      · have HZ : Hid (shS (nmV k).data.toList a b r g s m 2 = shS (nmV k).data.toList a b r g s m 1) := by
          show shS _ a b r g s m 1 ++ pcL (nmJ 1) (vlJ a b r g s m 1) = _
          rw [show vlJ a b r g s m 1 = b from rfl, show pcL (nmJ 1) b = [] by unfold pcL; rw [if_pos hz], List.append_nil]
        have dz : ((b : Int) != 0) = false := by rw [bne_eq_false_iff_eq]; omega
        clear hz
        go_wp2_with (first | (refine wpList_index rfl 85 _ _ rfl (.agg #[.string ⟨#[98, 105, 116, 115]⟩, .int .u64 (b : Nat)]) (HX #[.string ⟨#[97, 116]⟩, .int .u64 (a : Nat), .string ⟨#[98, 105, 116, 115]⟩, .int .u64 (b : Nat), .string ⟨#[114, 105, 103, 104, 116, 115]⟩, .int .u64 (r : Nat), .string ⟨#[103, 117, 97, 114, 100]⟩, .int .u64 (g : Nat), .string ⟨#[97, 115, 105, 100]⟩, .int .u64 (s : Nat), .string ⟨#[109, 97, 114, 107]⟩, .int .u64 (m : Nat)] 1 (.string ⟨#[98, 105, 116, 115]⟩) (.int .u64 (b : Nat)) (by decide) rfl _) ?_) | fail)
        exact ⟨⟨2, by omega, by go_num, ⟨by rw [HZ.out]; exact HI.out.bl.later (below_new _ _), HI.out.bel.alloc HI.out.bel.size _⟩⟩, by simp [RowKit.intOf]⟩
      · have HZ : Hid (shS (nmV k).data.toList a b r g s m 2 = shS (nmV k).data.toList a b r g s m 1 ++ ([32, 98, 105, 116, 115, 61] ++ (showB b).data.toList)) := by
          show shS _ a b r g s m 1 ++ pcL (nmJ 1) (vlJ a b r g s m 1) = _
          rw [show vlJ a b r g s m 1 = b from rfl, show pcL (nmJ 1) b = [32, 98, 105, 116, 115, 61] ++ (showB b).data.toList by unfold pcL; rw [if_neg hz]; rfl]
        have dz : ((b : Int) != 0) = true := by rw [bne_iff_ne]; omega
        have dz2 : ((b : Int) == 0) = false := by rw [beq_eq_false_iff_ne]; omega
        have cS := fun w2 h2 => show_any b HB.out.2.1 w2 h2
        have hss : ¬ 9223372036854775807 < 6 + (showB b).size := by have := showB_size b; omega
        go_upto_region 8 with (first | (refine wpList_index rfl 85 _ _ rfl (.agg #[.string ⟨#[98, 105, 116, 115]⟩, .int .u64 (b : Nat)]) (HX #[.string ⟨#[97, 116]⟩, .int .u64 (a : Nat), .string ⟨#[98, 105, 116, 115]⟩, .int .u64 (b : Nat), .string ⟨#[114, 105, 103, 104, 116, 115]⟩, .int .u64 (r : Nat), .string ⟨#[103, 117, 97, 114, 100]⟩, .int .u64 (g : Nat), .string ⟨#[97, 115, 105, 100]⟩, .int .u64 (s : Nat), .string ⟨#[109, 97, 114, 107]⟩, .int .u64 (m : Nat)] 1 (.string ⟨#[98, 105, 116, 115]⟩) (.int .u64 (b : Nat)) (by decide) rfl _) ?_) | fail)
        have gS := heap_alloc_new wr (.cells #[.string ⟨#[98, 105, 116, 115]⟩, .int .u64 (b : Nat)] 84)
        have hBL := HI.out.bl.later (below_new wr (.cells #[.string ⟨#[98, 105, 116, 115]⟩, .int .u64 (b : Nat)] 84))
        have hBe : Below w1.heap.size w1 (wr.alloc (.cells #[.string ⟨#[98, 105, 116, 115]⟩, .int .u64 (b : Nat)] 84)) := HI.out.bel.alloc HI.out.bel.size _
        have hne : w1.heap.size < wr.heap.size := HI.out.bl.lt
        generalize wr.heap.size = gs at *
        generalize wr.alloc (.cells #[.string ⟨#[98, 105, 116, 115]⟩, .int .u64 (b : Nat)] 84) = wv at *
        have k0 : wv.cell? ⟨gs, 0, none⟩ = some (.string ⟨#[98, 105, 116, 115]⟩) := by rw [cell_of_row _ _ _ _ _ _ gS]; rfl
        have k1 : wv.cell? ⟨gs, 1, none⟩ = some (.int .u64 (b : Nat)) := by rw [cell_of_row _ _ _ _ _ _ gS]; rfl
        go_upto_region 9 with fail
        replace hBL := Hid.mk hBL
        have hB := hBe
        clear hBe
        refine wp_region_noPanic ?_
        refine wp_region_held_drew (S := (fun w' => w'.cell? ⟨gs, 0, none⟩ = some (.string ⟨#[98, 105, 116, 115]⟩) ∧ w'.cell? ⟨gs, 1, none⟩ = some (.int .u64 (b : Nat)))) (by kernel_rfl) ?_ (fun hHeld => ?_)
        · exact ⟨cell_later (Below.refl _ _).drew k0, cell_later (Below.refl _ _).drew k1⟩
        replace k0 := cell_later (Below.refl _ wv).drew k0
        replace k1 := cell_later (Below.refl _ wv).drew k1
        replace gS := block_later (Below.refl _ wv).drew gS
        replace hBL := Hid.mk (hBL.out.later (Below.refl _ wv).drew)
        replace hB := below_tr hB (Below.refl _ wv).drew
        generalize wv.drew = Wd at *
        refine take_at (i := 0) (v := ?_) 43 rfl rfl (by kernel_rfl) (by kernel_rfl) (by kernel_rfl) (fun _ _ _ h => h) (Or.inl ⟨by rfl, ?_⟩) (by assumption) ?_
        rotate_left
        · (intro w' hSw; (try dsimp only at hSw); go_simp; all_goals with_reducible rfl)
        try simp only [Act.put, List.setIfInBounds_toArray, List.set_cons_zero, List.set_cons_succ]
        refine take_at (i := 1) (v := ?_) 44 rfl rfl (by kernel_rfl) (by kernel_rfl) (by kernel_rfl) (fun _ _ _ h => h) (Or.inl ⟨by rfl, ?_⟩) (by assumption) ?_
        rotate_left
        · (intro w' hSw; (try dsimp only at hSw); go_simp; all_goals with_reducible rfl)
        try simp only [Act.put, List.setIfInBounds_toArray, List.set_cons_zero, List.set_cons_succ]
        refine take_at (i := 2) (v := ?_) 45 rfl rfl (by kernel_rfl) (by kernel_rfl) (by kernel_rfl) (fun _ _ _ h => h) (Or.inl ⟨by rfl, ?_⟩) (by assumption) ?_
        rotate_left
        · (intro w' hSw; (try dsimp only at hSw); go_simp; all_goals with_reducible rfl)
        try simp only [Act.put, List.setIfInBounds_toArray, List.set_cons_zero, List.set_cons_succ]
        refine take_at (i := 3) (v := ?_) 46 rfl rfl (by kernel_rfl) (by kernel_rfl) (by kernel_rfl) (fun _ _ _ h => h) (Or.inl ⟨by rfl, ?_⟩) (by assumption) ?_
        rotate_left
        · (intro w' hSw; (try dsimp only at hSw); go_simp; all_goals with_reducible rfl)
        try simp only [Act.put, List.setIfInBounds_toArray, List.set_cons_zero, List.set_cons_succ]
        refine take_at (i := 4) (v := ?_) 47 rfl rfl (by kernel_rfl) (by kernel_rfl) (by kernel_rfl) (fun _ _ _ h => h) (Or.inl ⟨by rfl, ?_⟩) (by assumption) ?_
        rotate_left
        · (intro w' hSw; (try dsimp only at hSw); go_simp; all_goals with_reducible rfl)
        try simp only [Act.put, List.setIfInBounds_toArray, List.set_cons_zero, List.set_cons_succ]
        refine take_at (i := 5) (v := ?_) 48 rfl rfl (by kernel_rfl) (by kernel_rfl) (by kernel_rfl) (fun _ _ _ h => h) (Or.inl ⟨by rfl, ?_⟩) (by assumption) ?_
        rotate_left
        · (intro w' hSw; (try dsimp only at hSw); go_simp; all_goals with_reducible rfl)
        try simp only [Act.put, List.setIfInBounds_toArray, List.set_cons_zero, List.set_cons_succ]
        refine wpAnyH_ready (rs := [6]) (by kernel_rfl) (by simp) ?_
        refine AllReadyH.cons rfl (fun K hK => ?_) AllReadyH.nil
        go_simp
        refine (cS _ (hT.later (below_tr hB1 hB))).mono ?_
        rintro e wc1 ⟨rfl, hb⟩
        go_wp2_with fail
        replace k0 := cell_later hb k0
        replace k1 := cell_later hb k1
        replace gS := block_later hb gS
        replace hBL := Hid.mk (hBL.out.later hb)
        replace hB := below_tr hB hb
        clear hb
        refine hK.out _ _ ⟨k0, k1⟩ (fun hHeldq1 => ?_)
        clear hK
        try simp only [Act.put, List.setIfInBounds_toArray, List.set_cons_zero, List.set_cons_succ]
        refine take_at (i := 7) (v := ?_) 50 rfl rfl (by kernel_rfl) (by kernel_rfl) (by kernel_rfl) (fun _ _ _ h => h) (Or.inl ⟨by rfl, ?_⟩) (by assumption) ?_
        rotate_left
        · (intro w' hSw; (try dsimp only at hSw); go_simp; all_goals with_reducible rfl)
        try simp only [Act.put, List.setIfInBounds_toArray, List.set_cons_zero, List.set_cons_succ]
        have hSL : (⟨#[32]⟩ ++ ⟨#[98, 105, 116, 115]⟩ ++ ⟨#[61]⟩ ++ showB b : ByteArray).data.toList = [32, 98, 105, 116, 115, 61] ++ (showB b).data.toList := by simp [ByteArray.data_append]
        have hln : (byteCells (shS (nmV k).data.toList a b r g s m 1)).length + (⟨#[32]⟩ ++ ⟨#[98, 105, 116, 115]⟩ ++ ⟨#[61]⟩ ++ showB b : ByteArray).size ≤ 140737488355328 := by
          have h1 := HL.out 1
          have h2 := HNS.out
          have h3 := showB_len b
          have h4 := congrArg List.length hSL
          rw [List.length_append] at h4
          have h5 : (byteCells (shS (nmV k).data.toList a b r g s m 1)).length = (shS (nmV k).data.toList a b r g s m 1).length := by simp [byteCells]
          have h7 : ([32, 98, 105, 116, 115, 61] : List UInt8).length = 6 := rfl
          rw [h5, size_list, h4, h7]; omega
        generalize (⟨#[32]⟩ ++ ⟨#[98, 105, 116, 115]⟩ ++ ⟨#[61]⟩ ++ showB b : ByteArray) = S at *
        refine wpAnyH_ready (rs := [8]) (by kernel_rfl) (by simp) ?_
        refine AllReadyH.cons rfl (fun K hK => ?_) AllReadyH.nil
        go_simp
        refine (Tryd.Builder_WriteString_k w1.heap.size w1.heap.size _ S _ hBL.out.h hln hB.size).mono ?_
        rintro e wc2 ⟨rfl, hA, hb8, hO⟩
        rw [strCells_eq, hSL, byteCells_app] at hA
        go_wp2_with fail
        have gS2 := hO _ _ gS (by intro q; have := Option.some.inj q; omega) (fun c fz e => by cases e)
        replace k0 : wc2.cell? ⟨gs, 0, none⟩ = some (.string ⟨#[98, 105, 116, 115]⟩) := by rw [cell_of_row _ _ _ _ _ _ gS2]; rfl
        replace k1 : wc2.cell? ⟨gs, 1, none⟩ = some (.int .u64 (b : Nat)) := by rw [cell_of_row _ _ _ _ _ _ gS2]; rfl
        refine hK.out _ _ ⟨k0, k1⟩ (fun hHeldq2 => ?_)
        clear hK
        try simp only [Act.put, List.setIfInBounds_toArray, List.set_cons_zero, List.set_cons_succ]
        refine wpAnyH_done (by kernel_rfl) ?_ _
        refine NoPanic.normal ?_
        go_wp2
        exact ⟨⟨2, by omega, by go_num, ⟨by rw [HZ.out]; exact ⟨Or.inr hA⟩, hB.trans hb8⟩⟩, by simp [RowKit.intOf]⟩
    · by_cases hz : r = 0
      · have HZ : Hid (shS (nmV k).data.toList a b r g s m 3 = shS (nmV k).data.toList a b r g s m 2) := by
          show shS _ a b r g s m 2 ++ pcL (nmJ 2) (vlJ a b r g s m 2) = _
          rw [show vlJ a b r g s m 2 = r from rfl, show pcL (nmJ 2) r = [] by unfold pcL; rw [if_pos hz], List.append_nil]
        have dz : ((r : Int) != 0) = false := by rw [bne_eq_false_iff_eq]; omega
        clear hz
        go_wp2_with (first | (refine wpList_index rfl 85 _ _ rfl (.agg #[.string ⟨#[114, 105, 103, 104, 116, 115]⟩, .int .u64 (r : Nat)]) (HX #[.string ⟨#[97, 116]⟩, .int .u64 (a : Nat), .string ⟨#[98, 105, 116, 115]⟩, .int .u64 (b : Nat), .string ⟨#[114, 105, 103, 104, 116, 115]⟩, .int .u64 (r : Nat), .string ⟨#[103, 117, 97, 114, 100]⟩, .int .u64 (g : Nat), .string ⟨#[97, 115, 105, 100]⟩, .int .u64 (s : Nat), .string ⟨#[109, 97, 114, 107]⟩, .int .u64 (m : Nat)] 2 (.string ⟨#[114, 105, 103, 104, 116, 115]⟩) (.int .u64 (r : Nat)) (by decide) rfl _) ?_) | fail)
        exact ⟨⟨3, by omega, by go_num, ⟨by rw [HZ.out]; exact HI.out.bl.later (below_new _ _), HI.out.bel.alloc HI.out.bel.size _⟩⟩, by simp [RowKit.intOf]⟩
      · have HZ : Hid (shS (nmV k).data.toList a b r g s m 3 = shS (nmV k).data.toList a b r g s m 2 ++ ([32, 114, 105, 103, 104, 116, 115, 61] ++ (showB r).data.toList)) := by
          show shS _ a b r g s m 2 ++ pcL (nmJ 2) (vlJ a b r g s m 2) = _
          rw [show vlJ a b r g s m 2 = r from rfl, show pcL (nmJ 2) r = [32, 114, 105, 103, 104, 116, 115, 61] ++ (showB r).data.toList by unfold pcL; rw [if_neg hz]; rfl]
        have dz : ((r : Int) != 0) = true := by rw [bne_iff_ne]; omega
        have dz2 : ((r : Int) == 0) = false := by rw [beq_eq_false_iff_ne]; omega
        have cS := fun w2 h2 => show_any r HB.out.2.2.1 w2 h2
        have hss : ¬ 9223372036854775807 < 8 + (showB r).size := by have := showB_size r; omega
        go_upto_region 8 with (first | (refine wpList_index rfl 85 _ _ rfl (.agg #[.string ⟨#[114, 105, 103, 104, 116, 115]⟩, .int .u64 (r : Nat)]) (HX #[.string ⟨#[97, 116]⟩, .int .u64 (a : Nat), .string ⟨#[98, 105, 116, 115]⟩, .int .u64 (b : Nat), .string ⟨#[114, 105, 103, 104, 116, 115]⟩, .int .u64 (r : Nat), .string ⟨#[103, 117, 97, 114, 100]⟩, .int .u64 (g : Nat), .string ⟨#[97, 115, 105, 100]⟩, .int .u64 (s : Nat), .string ⟨#[109, 97, 114, 107]⟩, .int .u64 (m : Nat)] 2 (.string ⟨#[114, 105, 103, 104, 116, 115]⟩) (.int .u64 (r : Nat)) (by decide) rfl _) ?_) | fail)
        have gS := heap_alloc_new wr (.cells #[.string ⟨#[114, 105, 103, 104, 116, 115]⟩, .int .u64 (r : Nat)] 84)
        have hBL := HI.out.bl.later (below_new wr (.cells #[.string ⟨#[114, 105, 103, 104, 116, 115]⟩, .int .u64 (r : Nat)] 84))
        have hBe : Below w1.heap.size w1 (wr.alloc (.cells #[.string ⟨#[114, 105, 103, 104, 116, 115]⟩, .int .u64 (r : Nat)] 84)) := HI.out.bel.alloc HI.out.bel.size _
        have hne : w1.heap.size < wr.heap.size := HI.out.bl.lt
        generalize wr.heap.size = gs at *
        generalize wr.alloc (.cells #[.string ⟨#[114, 105, 103, 104, 116, 115]⟩, .int .u64 (r : Nat)] 84) = wv at *
        have k0 : wv.cell? ⟨gs, 0, none⟩ = some (.string ⟨#[114, 105, 103, 104, 116, 115]⟩) := by rw [cell_of_row _ _ _ _ _ _ gS]; rfl
        have k1 : wv.cell? ⟨gs, 1, none⟩ = some (.int .u64 (r : Nat)) := by rw [cell_of_row _ _ _ _ _ _ gS]; rfl
        go_upto_region 9 with fail
        replace hBL := Hid.mk hBL
        have hB := hBe
        clear hBe
        refine wp_region_noPanic ?_
        refine wp_region_held_drew (S := (fun w' => w'.cell? ⟨gs, 0, none⟩ = some (.string ⟨#[114, 105, 103, 104, 116, 115]⟩) ∧ w'.cell? ⟨gs, 1, none⟩ = some (.int .u64 (r : Nat)))) (by kernel_rfl) ?_ (fun hHeld => ?_)
        · exact ⟨cell_later (Below.refl _ _).drew k0, cell_later (Below.refl _ _).drew k1⟩
        replace k0 := cell_later (Below.refl _ wv).drew k0
        replace k1 := cell_later (Below.refl _ wv).drew k1
        replace gS := block_later (Below.refl _ wv).drew gS
        replace hBL := Hid.mk (hBL.out.later (Below.refl _ wv).drew)
        replace hB := below_tr hB (Below.refl _ wv).drew
        generalize wv.drew = Wd at *
        refine take_at (i := 0) (v := ?_) 43 rfl rfl (by kernel_rfl) (by kernel_rfl) (by kernel_rfl) (fun _ _ _ h => h) (Or.inl ⟨by rfl, ?_⟩) (by assumption) ?_
        rotate_left
        · (intro w' hSw; (try dsimp only at hSw); go_simp; all_goals with_reducible rfl)
        try simp only [Act.put, List.setIfInBounds_toArray, List.set_cons_zero, List.set_cons_succ]
        refine take_at (i := 1) (v := ?_) 44 rfl rfl (by kernel_rfl) (by kernel_rfl) (by kernel_rfl) (fun _ _ _ h => h) (Or.inl ⟨by rfl, ?_⟩) (by assumption) ?_
        rotate_left
        · (intro w' hSw; (try dsimp only at hSw); go_simp; all_goals with_reducible rfl)
        try simp only [Act.put, List.setIfInBounds_toArray, List.set_cons_zero, List.set_cons_succ]
        refine take_at (i := 2) (v := ?_) 45 rfl rfl (by kernel_rfl) (by kernel_rfl) (by kernel_rfl) (fun _ _ _ h => h) (Or.inl ⟨by rfl, ?_⟩) (by assumption) ?_
        rotate_left
        · (intro w' hSw; (try dsimp only at hSw); go_simp; all_goals with_reducible rfl)
        try simp only [Act.put, List.setIfInBounds_toArray, List.set_cons_zero, List.set_cons_succ]
        refine take_at (i := 3) (v := ?_) 46 rfl rfl (by kernel_rfl) (by kernel_rfl) (by kernel_rfl) (fun _ _ _ h => h) (Or.inl ⟨by rfl, ?_⟩) (by assumption) ?_
        rotate_left
        · (intro w' hSw; (try dsimp only at hSw); go_simp; all_goals with_reducible rfl)
        try simp only [Act.put, List.setIfInBounds_toArray, List.set_cons_zero, List.set_cons_succ]
        refine take_at (i := 4) (v := ?_) 47 rfl rfl (by kernel_rfl) (by kernel_rfl) (by kernel_rfl) (fun _ _ _ h => h) (Or.inl ⟨by rfl, ?_⟩) (by assumption) ?_
        rotate_left
        · (intro w' hSw; (try dsimp only at hSw); go_simp; all_goals with_reducible rfl)
        try simp only [Act.put, List.setIfInBounds_toArray, List.set_cons_zero, List.set_cons_succ]
        refine take_at (i := 5) (v := ?_) 48 rfl rfl (by kernel_rfl) (by kernel_rfl) (by kernel_rfl) (fun _ _ _ h => h) (Or.inl ⟨by rfl, ?_⟩) (by assumption) ?_
        rotate_left
        · (intro w' hSw; (try dsimp only at hSw); go_simp; all_goals with_reducible rfl)
        try simp only [Act.put, List.setIfInBounds_toArray, List.set_cons_zero, List.set_cons_succ]
        refine wpAnyH_ready (rs := [6]) (by kernel_rfl) (by simp) ?_
        refine AllReadyH.cons rfl (fun K hK => ?_) AllReadyH.nil
        go_simp
        refine (cS _ (hT.later (below_tr hB1 hB))).mono ?_
        rintro e wc1 ⟨rfl, hb⟩
        go_wp2_with fail
        replace k0 := cell_later hb k0
        replace k1 := cell_later hb k1
        replace gS := block_later hb gS
        replace hBL := Hid.mk (hBL.out.later hb)
        replace hB := below_tr hB hb
        clear hb
        refine hK.out _ _ ⟨k0, k1⟩ (fun hHeldq1 => ?_)
        clear hK
        try simp only [Act.put, List.setIfInBounds_toArray, List.set_cons_zero, List.set_cons_succ]
        refine take_at (i := 7) (v := ?_) 50 rfl rfl (by kernel_rfl) (by kernel_rfl) (by kernel_rfl) (fun _ _ _ h => h) (Or.inl ⟨by rfl, ?_⟩) (by assumption) ?_
        rotate_left
        · (intro w' hSw; (try dsimp only at hSw); go_simp; all_goals with_reducible rfl)
        try simp only [Act.put, List.setIfInBounds_toArray, List.set_cons_zero, List.set_cons_succ]
        have hSL : (⟨#[32]⟩ ++ ⟨#[114, 105, 103, 104, 116, 115]⟩ ++ ⟨#[61]⟩ ++ showB r : ByteArray).data.toList = [32, 114, 105, 103, 104, 116, 115, 61] ++ (showB r).data.toList := by simp [ByteArray.data_append]
        have hln : (byteCells (shS (nmV k).data.toList a b r g s m 2)).length + (⟨#[32]⟩ ++ ⟨#[114, 105, 103, 104, 116, 115]⟩ ++ ⟨#[61]⟩ ++ showB r : ByteArray).size ≤ 140737488355328 := by
          have h1 := HL.out 2
          have h2 := HNS.out
          have h3 := showB_len r
          have h4 := congrArg List.length hSL
          rw [List.length_append] at h4
          have h5 : (byteCells (shS (nmV k).data.toList a b r g s m 2)).length = (shS (nmV k).data.toList a b r g s m 2).length := by simp [byteCells]
          have h7 : ([32, 114, 105, 103, 104, 116, 115, 61] : List UInt8).length = 8 := rfl
          rw [h5, size_list, h4, h7]; omega
        generalize (⟨#[32]⟩ ++ ⟨#[114, 105, 103, 104, 116, 115]⟩ ++ ⟨#[61]⟩ ++ showB r : ByteArray) = S at *
        refine wpAnyH_ready (rs := [8]) (by kernel_rfl) (by simp) ?_
        refine AllReadyH.cons rfl (fun K hK => ?_) AllReadyH.nil
        go_simp
        refine (Tryd.Builder_WriteString_k w1.heap.size w1.heap.size _ S _ hBL.out.h hln hB.size).mono ?_
        rintro e wc2 ⟨rfl, hA, hb8, hO⟩
        rw [strCells_eq, hSL, byteCells_app] at hA
        go_wp2_with fail
        have gS2 := hO _ _ gS (by intro q; have := Option.some.inj q; omega) (fun c fz e => by cases e)
        replace k0 : wc2.cell? ⟨gs, 0, none⟩ = some (.string ⟨#[114, 105, 103, 104, 116, 115]⟩) := by rw [cell_of_row _ _ _ _ _ _ gS2]; rfl
        replace k1 : wc2.cell? ⟨gs, 1, none⟩ = some (.int .u64 (r : Nat)) := by rw [cell_of_row _ _ _ _ _ _ gS2]; rfl
        refine hK.out _ _ ⟨k0, k1⟩ (fun hHeldq2 => ?_)
        clear hK
        try simp only [Act.put, List.setIfInBounds_toArray, List.set_cons_zero, List.set_cons_succ]
        refine wpAnyH_done (by kernel_rfl) ?_ _
        refine NoPanic.normal ?_
        go_wp2
        exact ⟨⟨3, by omega, by go_num, ⟨by rw [HZ.out]; exact ⟨Or.inr hA⟩, hB.trans hb8⟩⟩, by simp [RowKit.intOf]⟩
    · by_cases hz : g = 0
      · have HZ : Hid (shS (nmV k).data.toList a b r g s m 4 = shS (nmV k).data.toList a b r g s m 3) := by
          show shS _ a b r g s m 3 ++ pcL (nmJ 3) (vlJ a b r g s m 3) = _
          rw [show vlJ a b r g s m 3 = g from rfl, show pcL (nmJ 3) g = [] by unfold pcL; rw [if_pos hz], List.append_nil]
        have dz : ((g : Int) != 0) = false := by rw [bne_eq_false_iff_eq]; omega
        clear hz
        go_wp2_with (first | (refine wpList_index rfl 85 _ _ rfl (.agg #[.string ⟨#[103, 117, 97, 114, 100]⟩, .int .u64 (g : Nat)]) (HX #[.string ⟨#[97, 116]⟩, .int .u64 (a : Nat), .string ⟨#[98, 105, 116, 115]⟩, .int .u64 (b : Nat), .string ⟨#[114, 105, 103, 104, 116, 115]⟩, .int .u64 (r : Nat), .string ⟨#[103, 117, 97, 114, 100]⟩, .int .u64 (g : Nat), .string ⟨#[97, 115, 105, 100]⟩, .int .u64 (s : Nat), .string ⟨#[109, 97, 114, 107]⟩, .int .u64 (m : Nat)] 3 (.string ⟨#[103, 117, 97, 114, 100]⟩) (.int .u64 (g : Nat)) (by decide) rfl _) ?_) | fail)
        exact ⟨⟨4, by omega, by go_num, ⟨by rw [HZ.out]; exact HI.out.bl.later (below_new _ _), HI.out.bel.alloc HI.out.bel.size _⟩⟩, by simp [RowKit.intOf]⟩
      · have HZ : Hid (shS (nmV k).data.toList a b r g s m 4 = shS (nmV k).data.toList a b r g s m 3 ++ ([32, 103, 117, 97, 114, 100, 61] ++ (showB g).data.toList)) := by
          show shS _ a b r g s m 3 ++ pcL (nmJ 3) (vlJ a b r g s m 3) = _
          rw [show vlJ a b r g s m 3 = g from rfl, show pcL (nmJ 3) g = [32, 103, 117, 97, 114, 100, 61] ++ (showB g).data.toList by unfold pcL; rw [if_neg hz]; rfl]
        have dz : ((g : Int) != 0) = true := by rw [bne_iff_ne]; omega
        have dz2 : ((g : Int) == 0) = false := by rw [beq_eq_false_iff_ne]; omega
        have cS := fun w2 h2 => show_any g HB.out.2.2.2.1 w2 h2
        have hss : ¬ 9223372036854775807 < 7 + (showB g).size := by have := showB_size g; omega
        go_upto_region 8 with (first | (refine wpList_index rfl 85 _ _ rfl (.agg #[.string ⟨#[103, 117, 97, 114, 100]⟩, .int .u64 (g : Nat)]) (HX #[.string ⟨#[97, 116]⟩, .int .u64 (a : Nat), .string ⟨#[98, 105, 116, 115]⟩, .int .u64 (b : Nat), .string ⟨#[114, 105, 103, 104, 116, 115]⟩, .int .u64 (r : Nat), .string ⟨#[103, 117, 97, 114, 100]⟩, .int .u64 (g : Nat), .string ⟨#[97, 115, 105, 100]⟩, .int .u64 (s : Nat), .string ⟨#[109, 97, 114, 107]⟩, .int .u64 (m : Nat)] 3 (.string ⟨#[103, 117, 97, 114, 100]⟩) (.int .u64 (g : Nat)) (by decide) rfl _) ?_) | fail)
        have gS := heap_alloc_new wr (.cells #[.string ⟨#[103, 117, 97, 114, 100]⟩, .int .u64 (g : Nat)] 84)
        have hBL := HI.out.bl.later (below_new wr (.cells #[.string ⟨#[103, 117, 97, 114, 100]⟩, .int .u64 (g : Nat)] 84))
        have hBe : Below w1.heap.size w1 (wr.alloc (.cells #[.string ⟨#[103, 117, 97, 114, 100]⟩, .int .u64 (g : Nat)] 84)) := HI.out.bel.alloc HI.out.bel.size _
        have hne : w1.heap.size < wr.heap.size := HI.out.bl.lt
        generalize wr.heap.size = gs at *
        generalize wr.alloc (.cells #[.string ⟨#[103, 117, 97, 114, 100]⟩, .int .u64 (g : Nat)] 84) = wv at *
        have k0 : wv.cell? ⟨gs, 0, none⟩ = some (.string ⟨#[103, 117, 97, 114, 100]⟩) := by rw [cell_of_row _ _ _ _ _ _ gS]; rfl
        have k1 : wv.cell? ⟨gs, 1, none⟩ = some (.int .u64 (g : Nat)) := by rw [cell_of_row _ _ _ _ _ _ gS]; rfl
        go_upto_region 9 with fail
        replace hBL := Hid.mk hBL
        have hB := hBe
        clear hBe
        refine wp_region_noPanic ?_
        refine wp_region_held_drew (S := (fun w' => w'.cell? ⟨gs, 0, none⟩ = some (.string ⟨#[103, 117, 97, 114, 100]⟩) ∧ w'.cell? ⟨gs, 1, none⟩ = some (.int .u64 (g : Nat)))) (by kernel_rfl) ?_ (fun hHeld => ?_)
        · exact ⟨cell_later (Below.refl _ _).drew k0, cell_later (Below.refl _ _).drew k1⟩
        replace k0 := cell_later (Below.refl _ wv).drew k0
        replace k1 := cell_later (Below.refl _ wv).drew k1
        replace gS := block_later (Below.refl _ wv).drew gS
        replace hBL := Hid.mk (hBL.out.later (Below.refl _ wv).drew)
        replace hB := below_tr hB (Below.refl _ wv).drew
        generalize wv.drew = Wd at *
        refine take_at (i := 0) (v := ?_) 43 rfl rfl (by kernel_rfl) (by kernel_rfl) (by kernel_rfl) (fun _ _ _ h => h) (Or.inl ⟨by rfl, ?_⟩) (by assumption) ?_
        rotate_left
        · (intro w' hSw; (try dsimp only at hSw); go_simp; all_goals with_reducible rfl)
        try simp only [Act.put, List.setIfInBounds_toArray, List.set_cons_zero, List.set_cons_succ]
        refine take_at (i := 1) (v := ?_) 44 rfl rfl (by kernel_rfl) (by kernel_rfl) (by kernel_rfl) (fun _ _ _ h => h) (Or.inl ⟨by rfl, ?_⟩) (by assumption) ?_
        rotate_left
        · (intro w' hSw; (try dsimp only at hSw); go_simp; all_goals with_reducible rfl)
        try simp only [Act.put, List.setIfInBounds_toArray, List.set_cons_zero, List.set_cons_succ]
        refine take_at (i := 2) (v := ?_) 45 rfl rfl (by kernel_rfl) (by kernel_rfl) (by kernel_rfl) (fun _ _ _ h => h) (Or.inl ⟨by rfl, ?_⟩) (by assumption) ?_
        rotate_left
        · (intro w' hSw; (try dsimp only at hSw); go_simp; all_goals with_reducible rfl)
        try simp only [Act.put, List.setIfInBounds_toArray, List.set_cons_zero, List.set_cons_succ]
        refine take_at (i := 3) (v := ?_) 46 rfl rfl (by kernel_rfl) (by kernel_rfl) (by kernel_rfl) (fun _ _ _ h => h) (Or.inl ⟨by rfl, ?_⟩) (by assumption) ?_
        rotate_left
        · (intro w' hSw; (try dsimp only at hSw); go_simp; all_goals with_reducible rfl)
        try simp only [Act.put, List.setIfInBounds_toArray, List.set_cons_zero, List.set_cons_succ]
        refine take_at (i := 4) (v := ?_) 47 rfl rfl (by kernel_rfl) (by kernel_rfl) (by kernel_rfl) (fun _ _ _ h => h) (Or.inl ⟨by rfl, ?_⟩) (by assumption) ?_
        rotate_left
        · (intro w' hSw; (try dsimp only at hSw); go_simp; all_goals with_reducible rfl)
        try simp only [Act.put, List.setIfInBounds_toArray, List.set_cons_zero, List.set_cons_succ]
        refine take_at (i := 5) (v := ?_) 48 rfl rfl (by kernel_rfl) (by kernel_rfl) (by kernel_rfl) (fun _ _ _ h => h) (Or.inl ⟨by rfl, ?_⟩) (by assumption) ?_
        rotate_left
        · (intro w' hSw; (try dsimp only at hSw); go_simp; all_goals with_reducible rfl)
        try simp only [Act.put, List.setIfInBounds_toArray, List.set_cons_zero, List.set_cons_succ]
        refine wpAnyH_ready (rs := [6]) (by kernel_rfl) (by simp) ?_
        refine AllReadyH.cons rfl (fun K hK => ?_) AllReadyH.nil
        go_simp
        refine (cS _ (hT.later (below_tr hB1 hB))).mono ?_
        rintro e wc1 ⟨rfl, hb⟩
        go_wp2_with fail
        replace k0 := cell_later hb k0
        replace k1 := cell_later hb k1
        replace gS := block_later hb gS
        replace hBL := Hid.mk (hBL.out.later hb)
        replace hB := below_tr hB hb
        clear hb
        refine hK.out _ _ ⟨k0, k1⟩ (fun hHeldq1 => ?_)
        clear hK
        try simp only [Act.put, List.setIfInBounds_toArray, List.set_cons_zero, List.set_cons_succ]
        refine take_at (i := 7) (v := ?_) 50 rfl rfl (by kernel_rfl) (by kernel_rfl) (by kernel_rfl) (fun _ _ _ h => h) (Or.inl ⟨by rfl, ?_⟩) (by assumption) ?_
        rotate_left
        · (intro w' hSw; (try dsimp only at hSw); go_simp; all_goals with_reducible rfl)
        try simp only [Act.put, List.setIfInBounds_toArray, List.set_cons_zero, List.set_cons_succ]
        have hSL : (⟨#[32]⟩ ++ ⟨#[103, 117, 97, 114, 100]⟩ ++ ⟨#[61]⟩ ++ showB g : ByteArray).data.toList = [32, 103, 117, 97, 114, 100, 61] ++ (showB g).data.toList := by simp [ByteArray.data_append]
        have hln : (byteCells (shS (nmV k).data.toList a b r g s m 3)).length + (⟨#[32]⟩ ++ ⟨#[103, 117, 97, 114, 100]⟩ ++ ⟨#[61]⟩ ++ showB g : ByteArray).size ≤ 140737488355328 := by
          have h1 := HL.out 3
          have h2 := HNS.out
          have h3 := showB_len g
          have h4 := congrArg List.length hSL
          rw [List.length_append] at h4
          have h5 : (byteCells (shS (nmV k).data.toList a b r g s m 3)).length = (shS (nmV k).data.toList a b r g s m 3).length := by simp [byteCells]
          have h7 : ([32, 103, 117, 97, 114, 100, 61] : List UInt8).length = 7 := rfl
          rw [h5, size_list, h4, h7]; omega
        generalize (⟨#[32]⟩ ++ ⟨#[103, 117, 97, 114, 100]⟩ ++ ⟨#[61]⟩ ++ showB g : ByteArray) = S at *
        refine wpAnyH_ready (rs := [8]) (by kernel_rfl) (by simp) ?_
        refine AllReadyH.cons rfl (fun K hK => ?_) AllReadyH.nil
        go_simp
        refine (Tryd.Builder_WriteString_k w1.heap.size w1.heap.size _ S _ hBL.out.h hln hB.size).mono ?_
        rintro e wc2 ⟨rfl, hA, hb8, hO⟩
        rw [strCells_eq, hSL, byteCells_app] at hA
        go_wp2_with fail
        have gS2 := hO _ _ gS (by intro q; have := Option.some.inj q; omega) (fun c fz e => by cases e)
        replace k0 : wc2.cell? ⟨gs, 0, none⟩ = some (.string ⟨#[103, 117, 97, 114, 100]⟩) := by rw [cell_of_row _ _ _ _ _ _ gS2]; rfl
        replace k1 : wc2.cell? ⟨gs, 1, none⟩ = some (.int .u64 (g : Nat)) := by rw [cell_of_row _ _ _ _ _ _ gS2]; rfl
        refine hK.out _ _ ⟨k0, k1⟩ (fun hHeldq2 => ?_)
        clear hK
        try simp only [Act.put, List.setIfInBounds_toArray, List.set_cons_zero, List.set_cons_succ]
        refine wpAnyH_done (by kernel_rfl) ?_ _
        refine NoPanic.normal ?_
        go_wp2
        exact ⟨⟨4, by omega, by go_num, ⟨by rw [HZ.out]; exact ⟨Or.inr hA⟩, hB.trans hb8⟩⟩, by simp [RowKit.intOf]⟩
    · by_cases hz : s = 0
      · have HZ : Hid (shS (nmV k).data.toList a b r g s m 5 = shS (nmV k).data.toList a b r g s m 4) := by
          show shS _ a b r g s m 4 ++ pcL (nmJ 4) (vlJ a b r g s m 4) = _
          rw [show vlJ a b r g s m 4 = s from rfl, show pcL (nmJ 4) s = [] by unfold pcL; rw [if_pos hz], List.append_nil]
        have dz : ((s : Int) != 0) = false := by rw [bne_eq_false_iff_eq]; omega
        clear hz
        go_wp2_with (first | (refine wpList_index rfl 85 _ _ rfl (.agg #[.string ⟨#[97, 115, 105, 100]⟩, .int .u64 (s : Nat)]) (HX #[.string ⟨#[97, 116]⟩, .int .u64 (a : Nat), .string ⟨#[98, 105, 116, 115]⟩, .int .u64 (b : Nat), .string ⟨#[114, 105, 103, 104, 116, 115]⟩, .int .u64 (r : Nat), .string ⟨#[103, 117, 97, 114, 100]⟩, .int .u64 (g : Nat), .string ⟨#[97, 115, 105, 100]⟩, .int .u64 (s : Nat), .string ⟨#[109, 97, 114, 107]⟩, .int .u64 (m : Nat)] 4 (.string ⟨#[97, 115, 105, 100]⟩) (.int .u64 (s : Nat)) (by decide) rfl _) ?_) | fail)
        exact ⟨⟨5, by omega, by go_num, ⟨by rw [HZ.out]; exact HI.out.bl.later (below_new _ _), HI.out.bel.alloc HI.out.bel.size _⟩⟩, by simp [RowKit.intOf]⟩
      · have HZ : Hid (shS (nmV k).data.toList a b r g s m 5 = shS (nmV k).data.toList a b r g s m 4 ++ ([32, 97, 115, 105, 100, 61] ++ (showB s).data.toList)) := by
          show shS _ a b r g s m 4 ++ pcL (nmJ 4) (vlJ a b r g s m 4) = _
          rw [show vlJ a b r g s m 4 = s from rfl, show pcL (nmJ 4) s = [32, 97, 115, 105, 100, 61] ++ (showB s).data.toList by unfold pcL; rw [if_neg hz]; rfl]
        have dz : ((s : Int) != 0) = true := by rw [bne_iff_ne]; omega
        have dz2 : ((s : Int) == 0) = false := by rw [beq_eq_false_iff_ne]; omega
        have cS := fun w2 h2 => show_any s HB.out.2.2.2.2.1 w2 h2
        have hss : ¬ 9223372036854775807 < 6 + (showB s).size := by have := showB_size s; omega
        go_upto_region 8 with (first | (refine wpList_index rfl 85 _ _ rfl (.agg #[.string ⟨#[97, 115, 105, 100]⟩, .int .u64 (s : Nat)]) (HX #[.string ⟨#[97, 116]⟩, .int .u64 (a : Nat), .string ⟨#[98, 105, 116, 115]⟩, .int .u64 (b : Nat), .string ⟨#[114, 105, 103, 104, 116, 115]⟩, .int .u64 (r : Nat), .string ⟨#[103, 117, 97, 114, 100]⟩, .int .u64 (g : Nat), .string ⟨#[97, 115, 105, 100]⟩, .int .u64 (s : Nat), .string ⟨#[109, 97, 114, 107]⟩, .int .u64 (m : Nat)] 4 (.string ⟨#[97, 115, 105, 100]⟩) (.int .u64 (s : Nat)) (by decide) rfl _) ?_) | fail)
        have gS := heap_alloc_new wr (.cells #[.string ⟨#[97, 115, 105, 100]⟩, .int .u64 (s : Nat)] 84)
        have hBL := HI.out.bl.later (below_new wr (.cells #[.string ⟨#[97, 115, 105, 100]⟩, .int .u64 (s : Nat)] 84))
        have hBe : Below w1.heap.size w1 (wr.alloc (.cells #[.string ⟨#[97, 115, 105, 100]⟩, .int .u64 (s : Nat)] 84)) := HI.out.bel.alloc HI.out.bel.size _
        have hne : w1.heap.size < wr.heap.size := HI.out.bl.lt
        generalize wr.heap.size = gs at *
        generalize wr.alloc (.cells #[.string ⟨#[97, 115, 105, 100]⟩, .int .u64 (s : Nat)] 84) = wv at *
        have k0 : wv.cell? ⟨gs, 0, none⟩ = some (.string ⟨#[97, 115, 105, 100]⟩) := by rw [cell_of_row _ _ _ _ _ _ gS]; rfl
        have k1 : wv.cell? ⟨gs, 1, none⟩ = some (.int .u64 (s : Nat)) := by rw [cell_of_row _ _ _ _ _ _ gS]; rfl
        go_upto_region 9 with fail
        replace hBL := Hid.mk hBL
        have hB := hBe
        clear hBe
        refine wp_region_noPanic ?_
        refine wp_region_held_drew (S := (fun w' => w'.cell? ⟨gs, 0, none⟩ = some (.string ⟨#[97, 115, 105, 100]⟩) ∧ w'.cell? ⟨gs, 1, none⟩ = some (.int .u64 (s : Nat)))) (by kernel_rfl) ?_ (fun hHeld => ?_)
        · exact ⟨cell_later (Below.refl _ _).drew k0, cell_later (Below.refl _ _).drew k1⟩
        replace k0 := cell_later (Below.refl _ wv).drew k0
        replace k1 := cell_later (Below.refl _ wv).drew k1
        replace gS := block_later (Below.refl _ wv).drew gS
        replace hBL := Hid.mk (hBL.out.later (Below.refl _ wv).drew)
        replace hB := below_tr hB (Below.refl _ wv).drew
        generalize wv.drew = Wd at *
        refine take_at (i := 0) (v := ?_) 43 rfl rfl (by kernel_rfl) (by kernel_rfl) (by kernel_rfl) (fun _ _ _ h => h) (Or.inl ⟨by rfl, ?_⟩) (by assumption) ?_
        rotate_left
        · (intro w' hSw; (try dsimp only at hSw); go_simp; all_goals with_reducible rfl)
        try simp only [Act.put, List.setIfInBounds_toArray, List.set_cons_zero, List.set_cons_succ]
        refine take_at (i := 1) (v := ?_) 44 rfl rfl (by kernel_rfl) (by kernel_rfl) (by kernel_rfl) (fun _ _ _ h => h) (Or.inl ⟨by rfl, ?_⟩) (by assumption) ?_
        rotate_left
        · (intro w' hSw; (try dsimp only at hSw); go_simp; all_goals with_reducible rfl)
        try simp only [Act.put, List.setIfInBounds_toArray, List.set_cons_zero, List.set_cons_succ]
        refine take_at (i := 2) (v := ?_) 45 rfl rfl (by kernel_rfl) (by kernel_rfl) (by kernel_rfl) (fun _ _ _ h => h) (Or.inl ⟨by rfl, ?_⟩) (by assumption) ?_
        rotate_left
        · (intro w' hSw; (try dsimp only at hSw); go_simp; all_goals with_reducible rfl)
        try simp only [Act.put, List.setIfInBounds_toArray, List.set_cons_zero, List.set_cons_succ]
        refine take_at (i := 3) (v := ?_) 46 rfl rfl (by kernel_rfl) (by kernel_rfl) (by kernel_rfl) (fun _ _ _ h => h) (Or.inl ⟨by rfl, ?_⟩) (by assumption) ?_
        rotate_left
        · (intro w' hSw; (try dsimp only at hSw); go_simp; all_goals with_reducible rfl)
        try simp only [Act.put, List.setIfInBounds_toArray, List.set_cons_zero, List.set_cons_succ]
        refine take_at (i := 4) (v := ?_) 47 rfl rfl (by kernel_rfl) (by kernel_rfl) (by kernel_rfl) (fun _ _ _ h => h) (Or.inl ⟨by rfl, ?_⟩) (by assumption) ?_
        rotate_left
        · (intro w' hSw; (try dsimp only at hSw); go_simp; all_goals with_reducible rfl)
        try simp only [Act.put, List.setIfInBounds_toArray, List.set_cons_zero, List.set_cons_succ]
        refine take_at (i := 5) (v := ?_) 48 rfl rfl (by kernel_rfl) (by kernel_rfl) (by kernel_rfl) (fun _ _ _ h => h) (Or.inl ⟨by rfl, ?_⟩) (by assumption) ?_
        rotate_left
        · (intro w' hSw; (try dsimp only at hSw); go_simp; all_goals with_reducible rfl)
        try simp only [Act.put, List.setIfInBounds_toArray, List.set_cons_zero, List.set_cons_succ]
        refine wpAnyH_ready (rs := [6]) (by kernel_rfl) (by simp) ?_
        refine AllReadyH.cons rfl (fun K hK => ?_) AllReadyH.nil
        go_simp
        refine (cS _ (hT.later (below_tr hB1 hB))).mono ?_
        rintro e wc1 ⟨rfl, hb⟩
        go_wp2_with fail
        replace k0 := cell_later hb k0
        replace k1 := cell_later hb k1
        replace gS := block_later hb gS
        replace hBL := Hid.mk (hBL.out.later hb)
        replace hB := below_tr hB hb
        clear hb
        refine hK.out _ _ ⟨k0, k1⟩ (fun hHeldq1 => ?_)
        clear hK
        try simp only [Act.put, List.setIfInBounds_toArray, List.set_cons_zero, List.set_cons_succ]
        refine take_at (i := 7) (v := ?_) 50 rfl rfl (by kernel_rfl) (by kernel_rfl) (by kernel_rfl) (fun _ _ _ h => h) (Or.inl ⟨by rfl, ?_⟩) (by assumption) ?_
        rotate_left
        · (intro w' hSw; (try dsimp only at hSw); go_simp; all_goals with_reducible rfl)
        try simp only [Act.put, List.setIfInBounds_toArray, List.set_cons_zero, List.set_cons_succ]
        have hSL : (⟨#[32]⟩ ++ ⟨#[97, 115, 105, 100]⟩ ++ ⟨#[61]⟩ ++ showB s : ByteArray).data.toList = [32, 97, 115, 105, 100, 61] ++ (showB s).data.toList := by simp [ByteArray.data_append]
        have hln : (byteCells (shS (nmV k).data.toList a b r g s m 4)).length + (⟨#[32]⟩ ++ ⟨#[97, 115, 105, 100]⟩ ++ ⟨#[61]⟩ ++ showB s : ByteArray).size ≤ 140737488355328 := by
          have h1 := HL.out 4
          have h2 := HNS.out
          have h3 := showB_len s
          have h4 := congrArg List.length hSL
          rw [List.length_append] at h4
          have h5 : (byteCells (shS (nmV k).data.toList a b r g s m 4)).length = (shS (nmV k).data.toList a b r g s m 4).length := by simp [byteCells]
          have h7 : ([32, 97, 115, 105, 100, 61] : List UInt8).length = 6 := rfl
          rw [h5, size_list, h4, h7]; omega
        generalize (⟨#[32]⟩ ++ ⟨#[97, 115, 105, 100]⟩ ++ ⟨#[61]⟩ ++ showB s : ByteArray) = S at *
        refine wpAnyH_ready (rs := [8]) (by kernel_rfl) (by simp) ?_
        refine AllReadyH.cons rfl (fun K hK => ?_) AllReadyH.nil
        go_simp
        refine (Tryd.Builder_WriteString_k w1.heap.size w1.heap.size _ S _ hBL.out.h hln hB.size).mono ?_
        rintro e wc2 ⟨rfl, hA, hb8, hO⟩
        rw [strCells_eq, hSL, byteCells_app] at hA
        go_wp2_with fail
        have gS2 := hO _ _ gS (by intro q; have := Option.some.inj q; omega) (fun c fz e => by cases e)
        replace k0 : wc2.cell? ⟨gs, 0, none⟩ = some (.string ⟨#[97, 115, 105, 100]⟩) := by rw [cell_of_row _ _ _ _ _ _ gS2]; rfl
        replace k1 : wc2.cell? ⟨gs, 1, none⟩ = some (.int .u64 (s : Nat)) := by rw [cell_of_row _ _ _ _ _ _ gS2]; rfl
        refine hK.out _ _ ⟨k0, k1⟩ (fun hHeldq2 => ?_)
        clear hK
        try simp only [Act.put, List.setIfInBounds_toArray, List.set_cons_zero, List.set_cons_succ]
        refine wpAnyH_done (by kernel_rfl) ?_ _
        refine NoPanic.normal ?_
        go_wp2
        exact ⟨⟨5, by omega, by go_num, ⟨by rw [HZ.out]; exact ⟨Or.inr hA⟩, hB.trans hb8⟩⟩, by simp [RowKit.intOf]⟩
    · by_cases hz : m = 0
      · have HZ : Hid (shS (nmV k).data.toList a b r g s m 6 = shS (nmV k).data.toList a b r g s m 5) := by
          show shS _ a b r g s m 5 ++ pcL (nmJ 5) (vlJ a b r g s m 5) = _
          rw [show vlJ a b r g s m 5 = m from rfl, show pcL (nmJ 5) m = [] by unfold pcL; rw [if_pos hz], List.append_nil]
        have dz : ((m : Int) != 0) = false := by rw [bne_eq_false_iff_eq]; omega
        clear hz
        go_wp2_with (first | (refine wpList_index rfl 85 _ _ rfl (.agg #[.string ⟨#[109, 97, 114, 107]⟩, .int .u64 (m : Nat)]) (HX #[.string ⟨#[97, 116]⟩, .int .u64 (a : Nat), .string ⟨#[98, 105, 116, 115]⟩, .int .u64 (b : Nat), .string ⟨#[114, 105, 103, 104, 116, 115]⟩, .int .u64 (r : Nat), .string ⟨#[103, 117, 97, 114, 100]⟩, .int .u64 (g : Nat), .string ⟨#[97, 115, 105, 100]⟩, .int .u64 (s : Nat), .string ⟨#[109, 97, 114, 107]⟩, .int .u64 (m : Nat)] 5 (.string ⟨#[109, 97, 114, 107]⟩) (.int .u64 (m : Nat)) (by decide) rfl _) ?_) | fail)
        exact ⟨⟨6, by omega, by go_num, ⟨by rw [HZ.out]; exact HI.out.bl.later (below_new _ _), HI.out.bel.alloc HI.out.bel.size _⟩⟩, by simp [RowKit.intOf]⟩
      · have HZ : Hid (shS (nmV k).data.toList a b r g s m 6 = shS (nmV k).data.toList a b r g s m 5 ++ ([32, 109, 97, 114, 107, 61] ++ (showB m).data.toList)) := by
          show shS _ a b r g s m 5 ++ pcL (nmJ 5) (vlJ a b r g s m 5) = _
          rw [show vlJ a b r g s m 5 = m from rfl, show pcL (nmJ 5) m = [32, 109, 97, 114, 107, 61] ++ (showB m).data.toList by unfold pcL; rw [if_neg hz]; rfl]
        have dz : ((m : Int) != 0) = true := by rw [bne_iff_ne]; omega
        have dz2 : ((m : Int) == 0) = false := by rw [beq_eq_false_iff_ne]; omega
        have cS := fun w2 h2 => show_any m HB.out.2.2.2.2.2 w2 h2
        have hss : ¬ 9223372036854775807 < 6 + (showB m).size := by have := showB_size m; omega
        go_upto_region 8 with (first | (refine wpList_index rfl 85 _ _ rfl (.agg #[.string ⟨#[109, 97, 114, 107]⟩, .int .u64 (m : Nat)]) (HX #[.string ⟨#[97, 116]⟩, .int .u64 (a : Nat), .string ⟨#[98, 105, 116, 115]⟩, .int .u64 (b : Nat), .string ⟨#[114, 105, 103, 104, 116, 115]⟩, .int .u64 (r : Nat), .string ⟨#[103, 117, 97, 114, 100]⟩, .int .u64 (g : Nat), .string ⟨#[97, 115, 105, 100]⟩, .int .u64 (s : Nat), .string ⟨#[109, 97, 114, 107]⟩, .int .u64 (m : Nat)] 5 (.string ⟨#[109, 97, 114, 107]⟩) (.int .u64 (m : Nat)) (by decide) rfl _) ?_) | fail)
        have gS := heap_alloc_new wr (.cells #[.string ⟨#[109, 97, 114, 107]⟩, .int .u64 (m : Nat)] 84)
        have hBL := HI.out.bl.later (below_new wr (.cells #[.string ⟨#[109, 97, 114, 107]⟩, .int .u64 (m : Nat)] 84))
        have hBe : Below w1.heap.size w1 (wr.alloc (.cells #[.string ⟨#[109, 97, 114, 107]⟩, .int .u64 (m : Nat)] 84)) := HI.out.bel.alloc HI.out.bel.size _
        have hne : w1.heap.size < wr.heap.size := HI.out.bl.lt
        generalize wr.heap.size = gs at *
        generalize wr.alloc (.cells #[.string ⟨#[109, 97, 114, 107]⟩, .int .u64 (m : Nat)] 84) = wv at *
        have k0 : wv.cell? ⟨gs, 0, none⟩ = some (.string ⟨#[109, 97, 114, 107]⟩) := by rw [cell_of_row _ _ _ _ _ _ gS]; rfl
        have k1 : wv.cell? ⟨gs, 1, none⟩ = some (.int .u64 (m : Nat)) := by rw [cell_of_row _ _ _ _ _ _ gS]; rfl
        go_upto_region 9 with fail
        replace hBL := Hid.mk hBL
        have hB := hBe
        clear hBe
        refine wp_region_noPanic ?_
        refine wp_region_held_drew (S := (fun w' => w'.cell? ⟨gs, 0, none⟩ = some (.string ⟨#[109, 97, 114, 107]⟩) ∧ w'.cell? ⟨gs, 1, none⟩ = some (.int .u64 (m : Nat)))) (by kernel_rfl) ?_ (fun hHeld => ?_)
        · exact ⟨cell_later (Below.refl _ _).drew k0, cell_later (Below.refl _ _).drew k1⟩
        replace k0 := cell_later (Below.refl _ wv).drew k0
        replace k1 := cell_later (Below.refl _ wv).drew k1
        replace gS := block_later (Below.refl _ wv).drew gS
        replace hBL := Hid.mk (hBL.out.later (Below.refl _ wv).drew)
        replace hB := below_tr hB (Below.refl _ wv).drew
        generalize wv.drew = Wd at *
        refine take_at (i := 0) (v := ?_) 43 rfl rfl (by kernel_rfl) (by kernel_rfl) (by kernel_rfl) (fun _ _ _ h => h) (Or.inl ⟨by rfl, ?_⟩) (by assumption) ?_
        rotate_left
        · (intro w' hSw; (try dsimp only at hSw); go_simp; all_goals with_reducible rfl)
        try simp only [Act.put, List.setIfInBounds_toArray, List.set_cons_zero, List.set_cons_succ]
        refine take_at (i := 1) (v := ?_) 44 rfl rfl (by kernel_rfl) (by kernel_rfl) (by kernel_rfl) (fun _ _ _ h => h) (Or.inl ⟨by rfl, ?_⟩) (by assumption) ?_
        rotate_left
        · (intro w' hSw; (try dsimp only at hSw); go_simp; all_goals with_reducible rfl)
        try simp only [Act.put, List.setIfInBounds_toArray, List.set_cons_zero, List.set_cons_succ]
        refine take_at (i := 2) (v := ?_) 45 rfl rfl (by kernel_rfl) (by kernel_rfl) (by kernel_rfl) (fun _ _ _ h => h) (Or.inl ⟨by rfl, ?_⟩) (by assumption) ?_
        rotate_left
        · (intro w' hSw; (try dsimp only at hSw); go_simp; all_goals with_reducible rfl)
        try simp only [Act.put, List.setIfInBounds_toArray, List.set_cons_zero, List.set_cons_succ]
        refine take_at (i := 3) (v := ?_) 46 rfl rfl (by kernel_rfl) (by kernel_rfl) (by kernel_rfl) (fun _ _ _ h => h) (Or.inl ⟨by rfl, ?_⟩) (by assumption) ?_
        rotate_left
        · (intro w' hSw; (try dsimp only at hSw); go_simp; all_goals with_reducible rfl)
        try simp only [Act.put, List.setIfInBounds_toArray, List.set_cons_zero, List.set_cons_succ]
        refine take_at (i := 4) (v := ?_) 47 rfl rfl (by kernel_rfl) (by kernel_rfl) (by kernel_rfl) (fun _ _ _ h => h) (Or.inl ⟨by rfl, ?_⟩) (by assumption) ?_
        rotate_left
        · (intro w' hSw; (try dsimp only at hSw); go_simp; all_goals with_reducible rfl)
        try simp only [Act.put, List.setIfInBounds_toArray, List.set_cons_zero, List.set_cons_succ]
        refine take_at (i := 5) (v := ?_) 48 rfl rfl (by kernel_rfl) (by kernel_rfl) (by kernel_rfl) (fun _ _ _ h => h) (Or.inl ⟨by rfl, ?_⟩) (by assumption) ?_
        rotate_left
        · (intro w' hSw; (try dsimp only at hSw); go_simp; all_goals with_reducible rfl)
        try simp only [Act.put, List.setIfInBounds_toArray, List.set_cons_zero, List.set_cons_succ]
        refine wpAnyH_ready (rs := [6]) (by kernel_rfl) (by simp) ?_
        refine AllReadyH.cons rfl (fun K hK => ?_) AllReadyH.nil
        go_simp
        refine (cS _ (hT.later (below_tr hB1 hB))).mono ?_
        rintro e wc1 ⟨rfl, hb⟩
        go_wp2_with fail
        replace k0 := cell_later hb k0
        replace k1 := cell_later hb k1
        replace gS := block_later hb gS
        replace hBL := Hid.mk (hBL.out.later hb)
        replace hB := below_tr hB hb
        clear hb
        refine hK.out _ _ ⟨k0, k1⟩ (fun hHeldq1 => ?_)
        clear hK
        try simp only [Act.put, List.setIfInBounds_toArray, List.set_cons_zero, List.set_cons_succ]
        refine take_at (i := 7) (v := ?_) 50 rfl rfl (by kernel_rfl) (by kernel_rfl) (by kernel_rfl) (fun _ _ _ h => h) (Or.inl ⟨by rfl, ?_⟩) (by assumption) ?_
        rotate_left
        · (intro w' hSw; (try dsimp only at hSw); go_simp; all_goals with_reducible rfl)
        try simp only [Act.put, List.setIfInBounds_toArray, List.set_cons_zero, List.set_cons_succ]
        have hSL : (⟨#[32]⟩ ++ ⟨#[109, 97, 114, 107]⟩ ++ ⟨#[61]⟩ ++ showB m : ByteArray).data.toList = [32, 109, 97, 114, 107, 61] ++ (showB m).data.toList := by simp [ByteArray.data_append]
        have hln : (byteCells (shS (nmV k).data.toList a b r g s m 5)).length + (⟨#[32]⟩ ++ ⟨#[109, 97, 114, 107]⟩ ++ ⟨#[61]⟩ ++ showB m : ByteArray).size ≤ 140737488355328 := by
          have h1 := HL.out 5
          have h2 := HNS.out
          have h3 := showB_len m
          have h4 := congrArg List.length hSL
          rw [List.length_append] at h4
          have h5 : (byteCells (shS (nmV k).data.toList a b r g s m 5)).length = (shS (nmV k).data.toList a b r g s m 5).length := by simp [byteCells]
          have h7 : ([32, 109, 97, 114, 107, 61] : List UInt8).length = 6 := rfl
          rw [h5, size_list, h4, h7]; omega
        generalize (⟨#[32]⟩ ++ ⟨#[109, 97, 114, 107]⟩ ++ ⟨#[61]⟩ ++ showB m : ByteArray) = S at *
        refine wpAnyH_ready (rs := [8]) (by kernel_rfl) (by simp) ?_
        refine AllReadyH.cons rfl (fun K hK => ?_) AllReadyH.nil
        go_simp
        refine (Tryd.Builder_WriteString_k w1.heap.size w1.heap.size _ S _ hBL.out.h hln hB.size).mono ?_
        rintro e wc2 ⟨rfl, hA, hb8, hO⟩
        rw [strCells_eq, hSL, byteCells_app] at hA
        go_wp2_with fail
        have gS2 := hO _ _ gS (by intro q; have := Option.some.inj q; omega) (fun c fz e => by cases e)
        replace k0 : wc2.cell? ⟨gs, 0, none⟩ = some (.string ⟨#[109, 97, 114, 107]⟩) := by rw [cell_of_row _ _ _ _ _ _ gS2]; rfl
        replace k1 : wc2.cell? ⟨gs, 1, none⟩ = some (.int .u64 (m : Nat)) := by rw [cell_of_row _ _ _ _ _ _ gS2]; rfl
        refine hK.out _ _ ⟨k0, k1⟩ (fun hHeldq2 => ?_)
        clear hK
        try simp only [Act.put, List.setIfInBounds_toArray, List.set_cons_zero, List.set_cons_succ]
        refine wpAnyH_done (by kernel_rfl) ?_ _
        refine NoPanic.normal ?_
        go_wp2
        exact ⟨⟨6, by omega, by go_num, ⟨by rw [HZ.out]; exact ⟨Or.inr hA⟩, hB.trans hb8⟩⟩, by simp [RowKit.intOf]⟩
    · go_wp2_with fail
      refine (Tryd.Builder_String_any_k w1.heap.size w1.heap.size _ _ HI.out.bl.h (Nat.le_of_lt HI.out.bl.lt)).mono ?_
      rintro e w4 ⟨rfl, -, hb4, -⟩
      go_wp2
      go_ret2
      exact ⟨rfl, below_tr hB1 (HI.out.bel.trans hb4)⟩

end Go.Proofs.YtkedoajkdobjdaaDoor
