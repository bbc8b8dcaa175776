/- TlbMatches (P7.1): for every entry, ASID and address the law returns true: what is right is what the document says; a right entry matches just the addresses of its stretch, with its ASID. No condition beyond the row's own. -/
import Derived.Test.YthebhgllnjgjhaaDoorTlbL
import Derived.Test.YthebhgllnjgjhaaDoorTlbU
import Derived.Test.YthebhgllnjgjhaaDoorTlbFrame
import Derived.Test.YthebhgllnjgjhaaDoorTlbMatA
import Derived.Test.YthebhgllnjgjhaaDoorTlbMatB
import Derived.Test.YthebhgllnjgjhaaDoorTlbMatC
namespace Go.Proofs.YthebhgllnjgjhaaDoor.tlbMatches
open Go.ChangeShapes Go.WideShapes Go.ChangeAt Go.RowKit Go.Lib


set_option maxHeartbeats 2000000 in
theorem way_no (e : En) (w : World) (hAn : ∀ w1, Below w.heap.size w w1 → Calls Tryd.prog 7 #[] w1 fun r w' => r = .returned (.bool true) ∧ Below w1.heap.size w1 w')
    (hRr : ∀ w1, Below w.heap.size w w1 → Calls Tryd.prog 18 #[e.v] w1 fun r w' => r = .returned (.bool false) ∧ Below w1.heap.size w1 w')
    (hRc : ∀ w1, Below w.heap.size w w1 → Calls Tryd.prog 19 #[e.v] w1 fun r w' => r = .returned (.bool false) ∧ Below w1.heap.size w1 w') (i : Int) (x : Nat) :
    Calls Tryd.prog 5 #[e.v, .int .i64 i, .int .u64 x] w fun r w' => r = .returned (.bool true) ∧ Below w.heap.size w w' := by
  have hLi := fun w1 => listed_c e w1
  obtain ⟨a0, a1, a2, a3, a4, a5, a6, a7, a8, a9⟩ := e
  simp only [En.v] at *
  go_enter Tryd.func5, Tryd.ntmps5
  go_wp2_with fail
  refine (hAn _ (below_new _ _)).mono ?_
  rintro e w1 ⟨rfl, hb1⟩
  have HK := Hid.mk (block_later hb1 (heap_alloc_new w (.cells #[.int .i64 a0, .int .u64 a1, .int .i64 a2, .int .i64 a3, .int .u64 a4, .bool a5, .bool a6, .bool a7, .bool a8, .int .i64 a9] 33)))
  have HB := Hid.mk (below_tr (below_new w (.cells #[.int .i64 a0, .int .u64 a1, .int .i64 a2, .int .i64 a3, .int .u64 a4, .bool a5, .bool a6, .bool a7, .bool a8, .int .i64 a9] 33)) hb1)
  obtain ⟨k0, k1, k2, k3, k4, k5, k6, k7, k8, k9⟩ := cells10 HK.out
  clear hb1
  go_wp2_with fail
  refine (hLi _).mono ?_
  rintro e w2 ⟨rfl, hb2⟩
  have HK2 := Hid.mk (block_later (below_tr hb2 (below_new w2 (.cells #[.int .i64 a0, .int .u64 a1, .int .i64 a2, .int .i64 a3, .int .u64 a4, .bool a5, .bool a6, .bool a7, .bool a8, .int .i64 a9] 51))) HK.out)
  have HB2 := Hid.mk (below_tr HB.out (below_tr hb2 (below_new w2 (.cells #[.int .i64 a0, .int .u64 a1, .int .i64 a2, .int .i64 a3, .int .u64 a4, .bool a5, .bool a6, .bool a7, .bool a8, .int .i64 a9] 51))))
  clear hb2 HK HB k0 k1 k2 k3 k4 k5 k6 k7 k8 k9
  go_wp2_with fail
  refine (hRr _ HB2.out).mono ?_
  rintro e w3 ⟨rfl, hb3⟩
  obtain ⟨k0, k1, k2, k3, k4, k5, k6, k7, k8, k9⟩ := cells10 (block_later hb3 HK2.out)
  have HB3 := Hid.mk (below_tr HB2.out hb3)
  clear hb3 HK2 HB2
  go_wp2_with fail
  refine (hRc _ HB3.out).mono ?_
  rintro e w4 ⟨rfl, hb4⟩
  go_wp2
  go_ret
  exact ⟨rfl, below_tr HB3.out hb4⟩

/-- A stretch's addresses, and those with its base. -/
theorem stretch {k v x : Nat} (hk : k ≤ 39) (hv : v < 281474976710656) (ha : v / 2 ^ k * 2 ^ k = v) : (decide (x < 281474976710656) && decide (x % 281474976710656 / 2 ^ k * 2 ^ k = v)) = decide (v ≤ x ∧ x - v < 2 ^ k) := by
  have hm : 0 < 2 ^ k := Nat.two_pow_pos k
  have hp : (281474976710656 : Nat) = 2 ^ (48 - k) * 2 ^ k := by rw [← Nat.pow_add, show 48 - k + k = 48 by omega]
  generalize 2 ^ k = m at *
  generalize 2 ^ (48 - k) = j at *
  have hq : (v / m + 1) * m ≤ 281474976710656 := by
    have h1 : v / m < j := by
      apply Nat.lt_of_mul_lt_mul_right (a := m)
      rw [ha, ← hp]; exact hv
    rw [hp]; exact Nat.mul_le_mul_right m h1
  rw [Nat.add_mul, Nat.one_mul, ha] at hq
  rw [Bool.eq_iff_iff, Bool.and_eq_true, decide_eq_true_eq, decide_eq_true_eq, decide_eq_true_eq]
  constructor
  · rintro ⟨h1, h2⟩
    rw [Nat.mod_eq_of_lt h1] at h2
    have h3 := Nat.div_mul_le_self x m
    have h4 := Nat.lt_div_mul_add (a := x) hm
    rw [h2] at h3 h4
    omega
  · rintro ⟨h1, h2⟩
    have hx : x < 281474976710656 := by omega
    rw [Nat.mod_eq_of_lt hx]
    refine ⟨hx, ?_⟩
    have h3 : x / m = v / m := Nat.div_eq_of_lt_le (by rw [ha]; exact h1) (by rw [Nat.add_mul, Nat.one_mul, ha]; omega)
    rw [h3, ha]

theorem walk (e : En) (i : Int) (x : Nat) (w : World) (he : e.ok) (hx : x < 18446744073709551616) (hF : Flds w) :
    Calls Tryd.prog 5 #[e.v, .int .i64 i, .int .u64 x] w fun r w' => r = .returned (.bool true) ∧ Below w.heap.size w w' := by
  have hAn := fun w1 (hb : Below w.heap.size w w1) => tanchor_any w1 (hF.later hb)
  have hRr := fun w1 (_ : Below w.heap.size w w1) => rright_any e he w1
  have hRc := fun w1 (hb : Below w.heap.size w w1) => rightE_any e he w1 (hF.later hb)
  cases hr : rightE e
  · rw [hr] at hRr hRc
    exact way_no e w hAn hRr hRc i x
  · rw [hr] at hRr hRc
    have ho : outE e = false := by
      cases h : outE e
      · rfl
      · rw [outE_no h] at hr; cases hr
    obtain ⟨hl, h2⟩ := outE_yes ho
    rw [hr] at h2
    have h3 : baseV e.va e.lv = e.va := by
      have := h2.symm
      rw [Bool.and_eq_true] at this
      exact of_decide_eq_true this.1
    unfold outE at ho
    simp only [Bool.or_eq_false_iff, decide_eq_false_iff_not] at ho
    obtain ⟨hk1, hk2, hk3, hk4⟩ := lowK_eq hl
    have ha : e.va / 2 ^ lowK e.lv * 2 ^ lowK e.lv = e.va := by
      unfold baseV at h3
      rw [if_pos hl] at h3
      unfold baseN at h3
      rwa [Nat.mod_eq_of_lt (by omega)] at h3
    have hst := stretch (x := x) hk3 (by omega) ha
    have hLi := fun w1 (_ : Below w.heap.size w w1) => listed_c e w1
    have hBi := fun w1 => dbits_any e.lv w1
    have hMc := fun w1 (_ : Below w.heap.size w w1) => matches_any e i x hx w1
    have hSh : ∀ w1, (Op.shift BinOp.shl IntKind.u64 1 IntKind.i64 (lowL e.lv)).run Tryd.prog w1 = .ok (.int .u64 ((2 ^ lowK e.lv : Nat) : Int)) w1 := by
      rcases (show e.lv = 1 ∨ e.lv = 2 ∨ e.lv = 3 by omega) with h | h | h <;> rw [h] <;> exact fun _ => rfl
    have hM : e.aid = i → mB e i x = decide (e.va ≤ x ∧ x - e.va < 2 ^ lowK e.lv) := fun h => by
      rw [← hst]
      unfold mB lowB baseB baseV baseN
      rw [decide_eq_true h, hl, Bool.true_and, Bool.true_and, if_pos rfl]
    have hM0 : e.aid ≠ i → mB e i x = false := fun h => by
      unfold mB
      rw [decide_eq_false h, Bool.false_and]
    generalize mB e i x = M at *
    generalize 2 ^ lowK e.lv = N at *
    generalize lowL e.lv = L at *
    by_cases h1 : i = e.aid
    · by_cases h4 : x < e.va
      · exact way_B e.aid e.va e.lv e.k e.o e.u e.r e.x e.s e.a i L x N M w hAn hLi hRr hRc hBi hSh hMc h1 h4 (by rw [hM h1.symm]; exact decide_eq_false (by omega))
      · exact way_C e.aid e.va e.lv e.k e.o e.u e.r e.x e.s e.a i L x N M w hAn hLi hRr hRc hBi hSh hMc h1 (by omega) hx (by rw [hM h1.symm, decide_eq_decide]; exact ⟨fun h => h.2, fun h => ⟨by omega, h⟩⟩)
    · exact way_A e.aid e.va e.lv e.k e.o e.u e.r e.x e.s e.a i L x N M w hAn hLi hRr hRc hBi hSh hMc h1 (hM0 fun h => h1 h.symm)

theorem met {W : World} (h : laidMet Tryd.prog Rows.tlbMatchesRow.laid W) : Flds W := by
  have h1 := pair_of_reads (g := 0) (by kernel_rfl) (by kernel_rfl) (Lib.laidMet.reads h (n := "portreeve/desc.outField") (d := Rows.laid_portreeve_desc_outField) (by simp [Rows.tlbMatchesRow]))
  exact ⟨h1.1, h1.2, trivial, trivial⟩

theorem own : ownKnob Tryd.prog.godebug = none := by kernel_rfl
theorem laidOut : laidOutB Tryd.prog = true := by kernel_rfl

set_option linter.unusedVariables false in
set_option maxRecDepth 100000 in
theorem contract (H : Type) (enc : TypeId × Value → H) (W : World) (base : Nat) (args : Array Value) (ds gs : List (DataW H)) (before : List MemPlace)
    (hval0 : ∀ (j : Nat) t v, Tryd.f5.params[j]? = some t → args[j]? = some v → Value.okWide Tryd.prog W .any base t v)
    (hW : DataW.Whole enc Tryd.prog Tryd.f5.params.toList Rows.tlbMatchesSpec.vars false W args.toList ds gs before) (hL0 : laidMetH Tryd.prog Rows.tlbMatchesRow.laid W) :
    Calls Tryd.prog 5 args W fun e W' => ∃ v, e = .returned v ∧ Rows.tlbMatchesSpec.post enc Tryd.prog Tryd.f5 false true false false W args v W' := by
  have hL := hL0
  rw [MakeChecks.laidMetH_plain _ _ _ (by kernel_rfl)] at hL
  have hval := hval0
  have hW' := hW
  obtain ⟨p, q, hA0, hV, rfl, hfz, hnd⟩ := hW
  have hA : DataW.TrodAll enc Tryd.prog W 0 (fun _ => true) true Tryd.f5.params.toList args.toList ds p := hA0
  rw [Tryd.params5] at hA hval
  obtain ⟨v0, vs0, d0, ds0, p0, q0, hargs, rfl, rfl, h0, r0⟩ := trodAll_cons hA
  obtain ⟨v1, vs1, d1, ds1, p1, q1, rfl, rfl, rfl, h1, r1⟩ := trodAll_cons r0
  obtain ⟨v2, vs2, d2, ds2, p2, q2, rfl, rfl, rfl, h2, r2⟩ := trodAll_cons r1
  obtain ⟨rfl, rfl, rfl⟩ := trodAll_nil r2
  obtain rfl : args = #[v0, v1, v2] := by cases args; simp_all
  obtain ⟨rfl, rfl⟩ := trodVars_none hV
  have k0 := h0
  have lt0 : ∀ x ∈ p0, x.block < W.heap.size := by obtain ⟨m, hm⟩ := k0; exact DataW.trod_lt m _ _ _ hm
  have k1 := h1
  have lt1 : ∀ x ∈ p1, x.block < W.heap.size := by obtain ⟨m, hm⟩ := k1; exact DataW.trod_lt m _ _ _ hm
  have k2 := h2
  have lt2 : ∀ x ∈ p2, x.block < W.heap.size := by obtain ⟨m, hm⟩ := k2; exact DataW.trod_lt m _ _ _ hm
  obtain ⟨en0, rfl, b0⟩ := open_entry (hval 0 33 v0 rfl rfl) h0
  obtain ⟨a1, rfl, _, _, w1⟩ := open_int Tryd.underlying3 (hval 1 3 v1 rfl rfl) h1
  obtain ⟨a2, rfl, _, _, w2⟩ := open_int Tryd.underlying29 (hval 2 29 v2 rfl rfl) h2
  obtain ⟨x2, rfl⟩ := Int.eq_ofNat_of_zero_le (bounds_u64 w2).1
  have b2 : x2 < 18446744073709551616 := by have := (bounds_u64 w2).2; omega
  clear hA0 hval0
  refine (walk en0 a1 x2 W b0 b2 (met hL)).mono fun e W' ⟨he, bel⟩ => ?_
  subst he
  exact ⟨_, rfl, _, _, _, [], _, [], hW', trodAll_mk1 (shut_bool Tryd.underlying4 _), (trodAll_cons_mk (Below.trod laidOut (by kernel_rfl) (of_decide_eq_true (by kernel_rfl)) k0 bel lt0) (trodAll_cons_mk (Below.trod laidOut (by kernel_rfl) (of_decide_eq_true (by kernel_rfl)) k1 bel lt1) (trodAll_cons_mk (Below.trod laidOut (by kernel_rfl) (of_decide_eq_true (by kernel_rfl)) k2 bel lt2) trodAll_mk0))), rfl, bel.frame _, fun h => by cases h⟩

theorem laid_met (os : Os) : laidMet Tryd.prog Rows.tlbMatchesRow.laid ((World.laidAll Tryd.prog os Rows.tlbMatchesRow.laid).forCall (fun _ _ => 0) ⟨#[], #[.agg #[.int .i64 0, .int .u64 0, .int .i64 0, .int .i64 0, .int .u64 0, .bool false, .bool false, .bool false, .bool false, .int .i64 0], .int .i64 0, .int .u64 0], []⟩).memory :=
  laidMet_laidAll _ (by kernel_rfl) (by kernel_rfl)
theorem reads (os : Os) {H : Type} (enc : TypeId × Value → H) : ∃ places, DataW.whole enc Tryd.prog ((World.laidAll Tryd.prog os Rows.tlbMatchesRow.laid).forCall (fun _ _ => 0) ⟨#[], #[.agg #[.int .i64 0, .int .u64 0, .int .i64 0, .int .i64 0, .int .u64 0, .bool false, .bool false, .bool false, .bool false, .int .i64 0], .int .i64 0, .int .u64 0], []⟩).memory Tryd.f5.params.toList Rows.tlbMatchesSpec.vars false (#[.agg #[.int .i64 0, .int .u64 0, .int .i64 0, .int .i64 0, .int .u64 0, .bool false, .bool false, .bool false, .bool false, .int .i64 0], .int .i64 0, .int .u64 0] : Array Value).toList 8 = some ([.agg [.lit (.int .i64 0), .lit (.int .u64 0), .lit (.int .i64 0), .agg [.lit (.int .i64 0), .lit (.int .u64 0), .lit (.bool false), .lit (.bool false), .lit (.bool false), .lit (.bool false), .lit (.int .i64 0)]], .lit (.int .i64 0), .lit (.int .u64 0)], [], places) :=
  ⟨[], by kernel_rfl⟩

set_option maxRecDepth 100000 in
theorem lifted (os : Os) (started : os.Started) (H : Type) (enc : TypeId × Value → H) (F : Stop.Interp) :
    ReturnsInHanded {} Tryd.checked os 5 .any ((OpenSpec.ofChange Rows.tlbMatchesSpec).preRow enc Tryd.prog Tryd.f5 Rows.tlbMatchesRow.domain false Rows.tlbMatchesRow.laid) (((OpenSpec.ofChange Rows.tlbMatchesSpec).at F).post enc Tryd.prog Tryd.f5 false true false false) := by
  obtain ⟨places, hx⟩ := reads os enc
  refine returnsInHanded_of_row (C := Tryd.checked) (s := (OpenSpec.ofChange Rows.tlbMatchesSpec)) own started (by kernel_rfl) Tryd.func5
    (witness_row_at (enc := enc) (C := Tryd.checked) false (World.laidAll Tryd.prog os Rows.tlbMatchesRow.laid) #[.agg #[.int .i64 0, .int .u64 0, .int .i64 0, .int .i64 0, .int .u64 0, .bool false, .bool false, .bool false, .bool false, .int .i64 0], .int .i64 0, .int .u64 0] (World.laidAll_os _ _ _) (by kernel_rfl) (by kernel_rfl) (by kernel_rfl)
      (OpenSpec.preRow_of_cond 8 hx (by kernel_rfl) (fun k hk => by cases hk) (by kernel_rfl) (laid_met os))) ?_
  intro W base args ds gs before hval hW _ _ _ hL _ _
  exact contract H enc W base args ds gs before hval hW hL

theorem said : Rows.TlbMatchesSaid :=
  OpenClaim.holds_of_cond 5 Tryd.f5 rfl rfl rfl rfl rfl rfl rfl ⟨rfl, rfl, rfl, rfl, rfl⟩ rfl rfl rfl rfl rfl (by kernel_rfl) Tryd.func5 (by kernel_rfl)
    (of_decide_eq_true (by kernel_rfl)) (by unfold Func.isWrapper; first | (rw [if_pos (by decide +kernel)]; kernel_rfl) | (rw [if_neg (by decide +kernel)]; exact ⟨rfl, rfl⟩))
    (fun os started H enc _ F => by rw [OpenClaim.pre_eq_preRow]; exact lifted os started H enc F)

theorem plain (f : FuncId) (fn : Func) (hf : Tryd.pinned.checked.prog.funcNamed "portreeve/portreevelaw07.TlbMatches" = some f) (hfn : Tryd.pinned.checked.prog.funcs[f]? = some fn) :
    false = Tryd.pinned.checked.prog.looks [] ∧ ∀ (j : Nat) t, fn.params[j]? = some t → Tryd.pinned.checked.prog.wantsStandIn t = false := by
  obtain rfl : f = 5 := Option.some.inj ((show Tryd.prog.funcNamed "portreeve/portreevelaw07.TlbMatches" = some 5 by kernel_rfl).symm.trans hf) |>.symm
  obtain rfl : fn = Tryd.f5 := (Option.some.inj (Tryd.func5.symm.trans hfn)).symm
  refine ⟨by kernel_rfl, fun j t ht => ?_⟩
  rw [Tryd.params5] at ht
  have hm : t ∈ [33, 3, 29] := by simpa using Array.mem_of_getElem? ht
  have hall : ([33, 3, 29].all fun u => !Tryd.prog.wantsStandIn u) = true := by kernel_rfl
  exact (show Tryd.prog.wantsStandIn t = false by simpa using List.all_eq_true.1 hall t hm)

theorem card : Rows.TlbMatchesCardSaid :=
  Claim7.holds_tied_plain_at .later [] _ _ _ _ said (fun _ h => by cases h) (by kernel_rfl) (fun _ h => by cases h) tlbMatches_row_tie rfl ⟨rfl, rfl⟩ (by kernel_rfl) rfl plain (by kernel_rfl)

end Go.Proofs.YthebhgllnjgjhaaDoor.tlbMatches
