/- Differ. -/
import Derived.Test.YtiedlkhbbnjkbaaDiffMath
import Derived.Laws.CopyOwn
namespace Go.Proofs.Ytiedlkhbbnjkbaa
open Go.RowKit Go.Maps

theorem OwnW.neRow {w : World} {base : Nat} {v : Value} {ts : List Nat} (h : OwnW w base v ts) {j : Nat} {cur : Array Value} {t : TypeId} (hj : w.heap[j]? = some (.cells cur t (0, 0))) (ht : t ≠ 22) : some j ≠ v.ownBlock := by
  rcases h.2 with ⟨rfl, _⟩ | ⟨g, cap, cur', rfl, _, hgb, _⟩
  · simp [Value.ownBlock]
  · intro e
    have : j = g := by simpa [Value.ownBlock] using e
    subst this
    rw [hgb] at hj; cases hj; exact ht rfl
theorem OwnW.wsl {w : World} {base lo : Nat} {v : Value} {ts : List Nat} (h : OwnW w base v ts) (hlo : lo ≤ base) : Wsl w lo v ts := by
  rcases own_wsl h with h | ⟨g, cap, h1, h2, h3⟩
  · exact Or.inl h
  · exact Or.inr ⟨g, cap, h1, Nat.le_trans hlo h2, h3⟩

/-- Between two words of the pages of Differ. -/
structure DfRel (w1 : World) (full : List Nat) (most : Int) (wr : World) (v : Value) (acc rest : List Nat) : Prop where
  own : OwnW wr w1.heap.size v acc
  bel : Below w1.heap.size w1 wr
  eq : acc ++ rest = full
  lt : (acc.length : Int) < most

theorem DfRel.world {w1 wr w2 : World} {full : List Nat} {most : Int} {v : Value} {acc rest : List Nat} (h : DfRel w1 full most wr v acc rest) (hb : Below wr.heap.size wr w2) : DfRel w1 full most w2 v acc rest :=
  ⟨h.own.below hb, h.bel.trans (hb.mono h.bel.size), h.eq, h.lt⟩

theorem prow_cell {w : World} {b i : Nat} {F : Nat → Nat} (h : w.heap[b]? = some (.cells (prow F) 68 (0, 0))) (hi : i < 512) : w.cell? ⟨b, i, none⟩ = some (.int .u64 (F i : Nat)) := by
  simp [World.cell?, h, prow_get F i hi]

set_option maxRecDepth 100000 in
set_option maxHeartbeats 4000000 in
theorem differ_c {w : World} {X Y : Nat → Prop} {a b S n k : Nat} {f g : Nat → Nat} (h : MemAt w X a S n f) (h2 : MemAt w Y b S k g) (hn : n + k < 100000) (most : Int) (hm0 : -9223372036854775808 ≤ most) (hm1 : most < 9223372036854775808) :
    Calls Try.prog 20 #[.pointer (some ⟨a, 0, none⟩), .pointer (some ⟨b, 0, none⟩), .int .i64 most] w fun e w' => ∃ v, e = .returned v ∧ Wsl w' w.heap.size v ((dl f g S).take most.toNat) ∧ Below w.heap.size w w' := by
  have hun := fun nq => unlike_c (w := w.drewN nq) (X := X) (Y := Y) (a := a) (b := b) (S := S) (n := n) (k := k) (f := f) (g := g) (by obtain ⟨mb, pg, h⟩ := h; exact ⟨mb, pg, h.kept (fun _ _ => rfl) (Nat.le_refl _)⟩) (by obtain ⟨mb, pg, h⟩ := h2; exact ⟨mb, pg, h.kept (fun _ _ => rfl) (Nat.le_refl _)⟩) (by omega)
  obtain ⟨mb, pg, h⟩ := h
  obtain ⟨mb2, pg2, h2⟩ := h2
  have c0 := h.c0
  have e0 := h2.c0
  have hds : decide ((S : Int) = (S : Int)) = true := decide_eq_true rfl
  by_cases hmost : most ≤ 0
  · have dm : decide (most ≤ 0) = true := decide_eq_true hmost
    have HM : Hid (most.toNat = 0) := by (show most.toNat = 0; omega)
    clear h h2 hun
    go_enter Try.func20, Try.ntmps20
    go_wp2
    go_quiet (fail)
    go_wp2
    go_ret
    exact ⟨_, rfl, Or.inl ⟨rfl, by rw [HM.out]; rfl⟩, ⟨rfl, rfl, rfl, Nat.le_refl _, fun _ _ => rfl⟩⟩
  · have dm : decide (most ≤ 0) = false := decide_eq_false hmost
    have hs0 := h.s0
    have HD : Hid (∀ ts : List Nat, ts.Pairwise (fun x y => x < y) → (∀ x, x ∈ ts ↔ Unl f g x) → flat f g ts = dl f g S) := fun ts q1 q2 => flat_dl (by omega) h.out h2.out q1 q2
    have M1 := Hid.mk h
    have M2 := Hid.mk h2
    have HS := Hid.mk hs0
    clear h h2 hs0
    go_enter Try.func20, Try.ntmps20
    go_wp2
    go_quiet (fail)
    clear hds dm c0 e0
    have hu := hun nq
    have HB0 : Hid (Below w.heap.size w (w.drewN nq) ∧ (w.drewN nq).heap.size = w.heap.size) := ⟨⟨rfl, rfl, rfl, Nat.le_refl _, fun _ _ => rfl⟩, rfl⟩
    generalize w.drewN nq = w0 at *
    clear hun
    go_wp2_with fail
    refine hu.mono ?_
    rintro e1 w1 ⟨vt, ts, rfl, hasc, hmem, hlen, hW, hB1⟩
    have hfull := HD.out ts hasc hmem
    obtain ⟨full, hfl⟩ : ∃ full, full = dl f g S := ⟨_, rfl⟩
    have hfl2 : flat f g ts = full := hfull.trans hfl.symm
    have hflen : full.length ≤ 512 * ts.length := by rw [← hfl2]; exact flat_len f g ts
    have HFL := Hid.mk hfl
    have HF2 := Hid.mk hfl2
    have HB1 : Hid (Below w.heap.size w w1) := HB0.out.1.trans (by rw [← HB0.out.2]; exact hB1)
    have HLO : Hid (w.heap.size ≤ w1.heap.size) := by
      show w.heap.size ≤ w1.heap.size
      have := hB1.size
      rw [← HB0.out.2]; exact this
    have HMT : Hid (∀ x, x ∈ ts → x % 4096 = 0 ∧ x < S) := fun x hx => by
      obtain ⟨q1, i, hi, hne⟩ := (hmem x).1 hx
      refine ⟨q1, ?_⟩
      apply Classical.byContradiction
      intro c
      exact hne ((M1.out.out _ (Or.inr (by omega))).trans (M2.out.out _ (Or.inr (by omega))).symm)
    have M1' := Hid.mk (M1.out.kept (fun i hi => HB1.out.block i (M1.out.xlt i hi)) HB1.out.size)
    have M2' := Hid.mk (M2.out.kept (fun i hi => HB1.out.block i (M2.out.xlt i hi)) HB1.out.size)
    have HW := Hid.mk hW
    clear hu hasc hmem hW hB1 hfull hfl hfl2 HB0 HD M1 M2
    have hR0 : DfRel w1 full most w1 (.slice none 0 0) [] full := ⟨OwnW.nil _ _, Below.refl _ _, rfl, by simp; omega⟩
    rcases HW.out with ⟨rfl, rfl⟩ | ⟨gb, cap, rfl, hgb1, hgb2, hcell⟩
    · have hnil : Hid (full = []) := by show full = []; rw [← HF2.out]; rfl
      clear hR0
      go_wp2
      go_loopw [7, 30] (fun s7 s30 wr => s7 = .slice none 0 0 ∧ s30 = .int .i64 0 ∧ w1 = wr) (fun _ _ _ => 0)
      case atStart => exact ⟨rfl, rfl, rfl⟩
      case round =>
        obtain ⟨rfl, rfl, rfl⟩ := hrel
        go_wp2
        go_ret
        exact ⟨_, rfl, Or.inl ⟨rfl, by rw [← HFL.out, hnil.out]; simp⟩, HB1.out⟩
    · have HC := Hid.mk hcell
      have HGB := Hid.mk hgb2
      clear hcell HW hgb1 hgb2
      generalize htl : ts.length = tn at *
      have HTL := Hid.mk htl
      clear htl
      go_wp2
      go_loopw [7, 30] (fun s7 s30 wr => ∃ (v : Value) (j : Nat) (acc : List Nat), v = s7 ∧ s30 = .int .i64 j ∧ j ≤ tn ∧ DfRel w1 full most wr v acc (flat f g (ts.drop j))) (fun _ s30 _ => ((tn : Int) - intOf s30).toNat)
      case atStart => exact ⟨_, 0, [], rfl, rfl, Nat.zero_le _, by rw [List.drop_zero, HF2.out]; exact hR0⟩
      case round =>
        clear hR0
        obtain ⟨v, j, acc, rfl, rfl, hj, hR⟩ := hrel
        have HR := Hid.mk hR
        clear hR
        by_cases hjt : j < tn
        · obtain ⟨x, hx⟩ : ∃ x, x = ts[j]! := ⟨_, rfl⟩
          have hjl : j < ts.length := by rw [HTL.out]; exact hjt
          have hxm : x ∈ ts := by rw [hx, getElem!_pos ts j hjl]; exact List.getElem_mem hjl
          obtain ⟨hx4, hxS⟩ := HMT.out x hxm
          have hs0 := HS.out
          have hdrop : flat f g (ts.drop j) = tl f g x 0 ++ flat f g (ts.drop (j + 1)) := by
            rw [List.drop_eq_getElem_cons hjl, flat_cons, hx, getElem!_pos ts j hjl]
          have hcj : wr.cell? ⟨gb, j, none⟩ = some (.int .u64 (x : Nat)) := by
            rw [HR.out.bel.cell (p := ⟨gb, j, none⟩) HGB.out, HC.out j hjt, hx]
          have hxlt : x < 18446744073709551616 := by omega
          have hmm1 := M1'.out.kept (fun i hi => HR.out.bel.block i (M1'.out.xlt i hi)) HR.out.bel.size
          have hp1 := page_c hmm1 x hxlt hx4
          have HDR := Hid.mk hdrop
          have HJL := Hid.mk hjl
          clear hx hxm hjl hdrop hmm1
          go_wp2_with fail
          refine hp1.mono ?_
          rintro e2 w2 ⟨rfl, hb2⟩
          have hR2 := HR.out.world hb2
          have hmm2 := M2'.out.kept (fun i hi => hR2.bel.block i (M2'.out.xlt i hi)) hR2.bel.size
          have hp2 := page_c hmm2 x hxlt hx4
          have HR2 := Hid.mk hR2
          clear hp1 hb2 hcj HR hR2 hmm2
          go_wp2_with fail
          refine hp2.mono ?_
          rintro e3 w3 ⟨rfl, hb3⟩
          have hR3 := HR2.out.world hb3
          have HR3 := Hid.mk hR3
          clear hp2 hb3 HR2 hR3
          have hz := zeroZ
          have hal : Below w3.heap.size w3 ((w3.alloc (.cells (prow zeroF) 68)).alloc (.cells (prow zeroF) 68)) := ((Below.refl _ _).alloc (Nat.le_refl _) _).alloc (by simp) _
          have hn1 : ((w3.alloc (.cells (prow zeroF) 68)).alloc (.cells (prow zeroF) 68)).heap[w3.heap.size]? = some (.cells (prow zeroF) 68 (0, 0)) := by
            rw [Below.heap_alloc _ _ _ (by simp)]
            exact heap_alloc_new _ _
          have hn2 : ((w3.alloc (.cells (prow zeroF) 68)).alloc (.cells (prow zeroF) 68)).heap[w3.heap.size + 1]? = some (.cells (prow zeroF) 68 (0, 0)) := by
            have := heap_alloc_new (w3.alloc (.cells (prow zeroF) 68)) (.cells (prow zeroF) 68)
            simpa using this
          have HN1 := Hid.mk hn1
          have HN2 : Hid ((((w3.alloc (.cells (prow zeroF) 68)).alloc (.cells (prow zeroF) 68)).setRow w3.heap.size (prow fun i => f (x + 8 * i))).heap[w3.heap.size + 1]? = some (.cells (prow zeroF) 68 (0, 0))) := (setRow_other _ _ _ _ (by omega)).trans hn2
          have h51 : ((((w3.alloc (.cells (prow zeroF) 68)).alloc (.cells (prow zeroF) 68)).setRow w3.heap.size (prow fun i => f (x + 8 * i))).setRow (w3.heap.size + 1) (prow fun i => g (x + 8 * i))).heap[w3.heap.size]? = some (.cells (prow fun i => f (x + 8 * i)) 68 (0, 0)) :=
            (setRow_other _ _ _ _ (by omega)).trans (setRow_heap _ _ _ _ _ _ hn1)
          have h52 : ((((w3.alloc (.cells (prow zeroF) 68)).alloc (.cells (prow zeroF) 68)).setRow w3.heap.size (prow fun i => f (x + 8 * i))).setRow (w3.heap.size + 1) (prow fun i => g (x + 8 * i))).heap[w3.heap.size + 1]? = some (.cells (prow fun i => g (x + 8 * i)) 68 (0, 0)) :=
            setRow_heap _ _ _ _ _ _ HN2.out
          have h53 : Below w3.heap.size w3 ((((w3.alloc (.cells (prow zeroF) 68)).alloc (.cells (prow zeroF) 68)).setRow w3.heap.size (prow fun i => f (x + 8 * i))).setRow (w3.heap.size + 1) (prow fun i => g (x + 8 * i))) :=
            below_setRow (below_setRow hal (Nat.le_refl _) _) (by omega) _
          have H5 := Hid.mk (And.intro h51 (And.intro h52 h53))
          clear hal hn1 hn2 h51 h52 h53
          go_wp2_with (first
            | (refine wpList_store_row rfl 68 _ _ rfl w3.heap.size (prow fun i => f (x + 8 * i)) rfl rfl 68 _ HN1.out (info_page _) (by rw [prow_size, prow_size]) (prow_one _) ?_)
            | (refine wpList_store_row rfl 68 _ _ rfl (w3.heap.size + 1) (prow fun i => g (x + 8 * i)) rfl rfl 68 _ HN2.out (info_page _) (by rw [prow_size, prow_size]) (prow_one _) ?_))
          clear HN1 HN2 hz
          obtain ⟨B1, hB1⟩ : ∃ B1, B1 = w3.heap.size := ⟨_, rfl⟩
          have hR5 := HR3.out.world H5.out.2.2
          have HP5 := Hid.mk (And.intro H5.out.1 H5.out.2.1)
          generalize ((((w3.alloc (.cells (prow zeroF) 68)).alloc (.cells (prow zeroF) 68)).setRow w3.heap.size (prow fun i => f (x + 8 * i))).setRow (w3.heap.size + 1) (prow fun i => g (x + 8 * i))) = w5 at *
          rw [← hB1] at HP5 ⊢
          clear H5 HR3 hB1
          have HC1 : Hid (∀ (W : World) i, i < 512 → W.heap[B1]? = some (.cells (prow fun i => f (x + 8 * i)) 68 (0, 0)) → W.cell? ⟨B1, i, none⟩ = some (.int .u64 (f (x + 8 * i) : Nat))) := fun W i hi h => prow_cell h hi
          have HC2 : Hid (∀ (W : World) i, i < 512 → W.heap[B1 + 1]? = some (.cells (prow fun i => g (x + 8 * i)) 68 (0, 0)) → W.cell? ⟨B1 + 1, i, none⟩ = some (.int .u64 (g (x + 8 * i) : Nat))) := fun W i hi h => prow_cell h hi
          generalize prow (fun i => f (x + 8 * i)) = PR at *
          generalize prow (fun i => g (x + 8 * i)) = PR2 at *
          obtain ⟨R, hR0⟩ : ∃ R, R = flat f g (ts.drop (j + 1)) := ⟨_, rfl⟩
          have HRR := Hid.mk hR0
          have HR5 : Hid (DfRel w1 full most w5 v acc (tl f g x 0 ++ R)) := by
            have := hR5
            rw [HDR.out, ← hR0] at this
            exact this
          clear hR5 hR0 HDR
          go_loopw [7, 40] (fun s7 s40 wr => ∃ (v : Value) (i : Nat) (acc : List Nat), v = s7 ∧ s40 = .int .i64 i ∧ i ≤ 512 ∧ DfRel w1 full most wr v acc (tl f g x i ++ R) ∧ wr.heap[B1]? = some (.cells PR 68 (0, 0)) ∧ wr.heap[B1 + 1]? = some (.cells PR2 68 (0, 0))) (fun _ s40 _ => ((512 : Int) - intOf s40).toNat)
          case atStart => exact ⟨v, 0, acc, rfl, rfl, by omega, HR5.out, HP5.out⟩
          case round =>
            clear HR5 HP5
            obtain ⟨v, i, acc, rfl, rfl, hi, hR, hr1, hr2⟩ := hrel
            have HR := Hid.mk hR
            have HP := Hid.mk (And.intro hr1 hr2)
            clear hR hr1 hr2
            by_cases hi5 : i < 512
            · have hi5z : (i : Int) < 512 := by omega
              have f1 := HC1.out wr i hi5 HP.out.1
              have f2 := HC2.out wr i hi5 HP.out.2
              by_cases hfg : f (x + 8 * i) = g (x + 8 * i)
              · have HT := Hid.mk (tl_no hi5 hfg)
                generalize f (x + 8 * i) = F at *
                generalize g (x + 8 * i) = G at *
                have dfg : decide ((F : Int) = G) = true := decide_eq_true (by omega)
                go_wp2
                go_quiet (fail)
                have hR2 : DfRel w1 full most (wr.drewN nq) v acc (tl f g x (i + 1) ++ R) := by
                  have := HR.out.world (w2 := wr.drewN nq) ⟨rfl, rfl, rfl, Nat.le_refl _, fun _ _ => rfl⟩
                  rw [HT.out] at this
                  exact this
                have HR2 := Hid.mk hR2
                have HP2 : Hid ((wr.drewN nq).heap[B1]? = some (.cells PR 68 (0, 0)) ∧ (wr.drewN nq).heap[B1 + 1]? = some (.cells PR2 68 (0, 0))) := HP.out
                clear hR2 f1 f2
                generalize wr.drewN nq = wq at *
                go_wp2
                refine ⟨⟨v, i + 1, acc, rfl, by first | rfl | go_num, by omega, HR2.out, HP2.out⟩, by simp [intOf]; omega⟩
              · have HT := Hid.mk (tl_yes hi5 hfg)
                obtain ⟨y, hy⟩ : ∃ y, y = x + 8 * i := ⟨_, rfl⟩
                rw [← hy] at f1 f2 HT hfg
                have iy : (x : Int) + (i : Int) * 8 = (y : Int) := by omega
                have hyl : y < 18446744073709551616 := by omega
                have HY := Hid.mk hy
                clear hy
                generalize f y = F at *
                generalize g y = G at *
                have dfg : decide ((F : Int) = G) = false := decide_eq_false (by omega)
                go_wp2
                go_quiet (fail)
                have hR2 := HR.out.world (w2 := wr.drewN nq) ⟨rfl, rfl, rfl, Nat.le_refl _, fun _ _ => rfl⟩
                have HP2 : Hid ((wr.drewN nq).heap[B1]? = some (.cells PR 68 (0, 0)) ∧ (wr.drewN nq).heap[B1 + 1]? = some (.cells PR2 68 (0, 0))) := HP.out
                clear f1 f2
                generalize wr.drewN nq = wq at *
                have hO := hR2.own
                have hsz := hR2.bel.size
                have hal : acc.length ≤ full.length := by rw [← hR2.eq]; simp
                have hlt := hR2.lt
                have HO := Hid.mk hO
                have HR2 := Hid.mk hR2
                clear hO hR2 HR HP
                by_cases hlm : (acc.length : Int) + 1 = most
                · go_wp2_with (first
                    | (at_builtin; refine wpList_appW _ rfl _ _ rfl w1.heap.size _ acc rfl (HO.out.alloc _) y wq.heap.size rfl (by simp) (by omega) (by simp; omega) ?_; intro g3 cap3 w6 hown6 hgr6)
                    | go_in)
                  go_ret
                  have hR := HR2.out
                  have hB6 : Below w1.heap.size w1 w6 := (hR.bel.alloc hsz _).grown hgr6 (by simp; omega) (fun q e => (HO.out.lt q e).1)
                  refine ⟨.slice (some ⟨g3, 0, none⟩) (acc.length + 1) cap3, rfl, ?_, HB1.out.trans (hB6.mono HLO.out)⟩
                  have hful : acc ++ [y] ++ (tl f g x (i + 1) ++ R) = full := by
                    rw [← hR.eq, HT.out]; simp
                  have htk : full.take most.toNat = acc ++ [y] := by
                    rw [← hful, List.take_append_of_le_length (by simp; omega), List.take_of_length_le (by simp; omega)]
                  rw [← HFL.out, htk]
                  exact hown6.wsl HLO.out
                · go_wp2_with (first
                    | (at_builtin; refine wpList_appW _ rfl _ _ rfl w1.heap.size _ acc rfl (HO.out.alloc _) y wq.heap.size rfl (by simp) (by omega) (by simp; omega) ?_; intro g3 cap3 w6 hown6 hgr6)
                    | go_in)
                  have hR := HR2.out
                  have hB6 : Below w1.heap.size w1 w6 := (hR.bel.alloc hsz _).grown hgr6 (by simp; omega) (fun q e => (HO.out.lt q e).1)
                  have hful : acc ++ [y] ++ (tl f g x (i + 1) ++ R) = full := by
                    rw [← hR.eq, HT.out]; simp
                  have hal1 : (wq.alloc (.cells #[.int .u64 (y : Nat)] 22)).heap[B1]? = some (.cells PR 68 (0, 0)) := (Below.heap_alloc _ _ _ (Array.getElem?_eq_some_iff.1 HP2.out.1).1).trans HP2.out.1
                  have hal2 : (wq.alloc (.cells #[.int .u64 (y : Nat)] 22)).heap[B1 + 1]? = some (.cells PR2 68 (0, 0)) := (Below.heap_alloc _ _ _ (Array.getElem?_eq_some_iff.1 HP2.out.2).1).trans HP2.out.2
                  have q1 := (hgr6.block B1 (Array.getElem?_eq_some_iff.1 hal1).1 ((HO.out.alloc _).neRow hal1 (by decide))).trans hal1
                  have q2 := (hgr6.block (B1 + 1) (Array.getElem?_eq_some_iff.1 hal2).1 ((HO.out.alloc _).neRow hal2 (by decide))).trans hal2
                  refine ⟨⟨_, i + 1, acc ++ [y], rfl, by first | rfl | go_num, by omega, ⟨hown6, hB6, hful, by simp; omega⟩, q1, q2⟩, by simp [intOf]; omega⟩
            · have HE : Hid (i = 512) := by (show i = 512; omega)
              have HR6 : Hid (DfRel w1 full most wr v acc (flat f g (ts.drop (j + 1)))) := by
                have := HR.out
                rw [HE.out, tl_end, HRR.out] at this
                exact this
              clear HR
              go_wp2
              refine ⟨⟨v, j + 1, acc, rfl, by first | rfl | go_num, by omega, HR6.out⟩, by simp [intOf]; omega⟩
        · have HE : Hid (j = tn) := by (show j = tn; omega)
          go_wp2
          go_ret
          have hR := HR.out
          have he : acc = full := by
            have := hR.eq
            rw [HE.out, List.drop_of_length_le (by rw [HTL.out]; exact Nat.le_refl _)] at this
            simpa [flat] using this
          refine ⟨_, rfl, ?_, HB1.out.trans (hR.bel.mono HLO.out)⟩
          rw [← HFL.out, ← he, List.take_of_length_le (by have := hR.lt; omega)]
          exact hR.own.wsl HLO.out
end Go.Proofs.Ytiedlkhbbnjkbaa
