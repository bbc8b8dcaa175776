/- The walks of package walk, third part: follow. -/
import Derived.Test.YtndjhedoandinaaGreatDoorWalkC
namespace Go.Proofs.YtndjhedoandinaaGreatDoor
open Go.RowKit Go.Maps

theorem rdK_deep (x : Nat) : rdK 3 x ≠ 1 := by
  unfold rdK
  split
  · decide
  · rw [if_neg (by simp)]
    split <;> decide

/-- Between two levels of a walk: what was read, and what is left of it. -/
structure FRel (w wr : World) (S : Nat) (f : Nat → Nat) (va : Nat) (r0 : WL × Int × Int × Nat) (k tb : Nat) (L : WL) : Prop where
  k3 : k ≤ 3
  tm : tb % 4096 = 0
  tl : tb < 18446744073709551616
  ll : L.length + k ≤ 3
  h8 : wr.heap[w.heap.size]? = some (.cells (wayL [] 0 zL zF).toArray 193 (0, 0))
  h9 : wr.heap[w.heap.size + 1]? = some (.cells (wayL L L.length zL zF).toArray 193 (0, 0))
  bel : Below w.heap.size w wr
  e1 : L ++ (wk S f va (k + 1) tb).1 = r0.1
  e2 : (wk S f va (k + 1) tb).2 = r0.2

set_option maxHeartbeats 4000000 in
theorem follow_ok (l0 : Int) (tb0 va : Nat) (hl0 : isLv l0 = true) (htm : tb0 % 4096 = 0) (htl : tb0 < 18446744073709551616) (hva : va < 281474976710656) {w : World} {X : Nat → Prop} {a S n : Nat} {f : Nat → Nat} (hM : MemAt w X a S n f) (hF : Flds w) :
    Calls Tryz.prog 107 #[.pointer (some ⟨a, 0, none⟩), .int .i64 l0, .int .u64 tb0, .int .u64 va] w fun e w' => e = .returned (.agg (wayR (wk S f va (4 - l0).toNat tb0)).toArray) ∧ Below w.heap.size w w' := by
  have hS : S ≤ 4294967296 := by obtain ⟨_, _, h⟩ := hM; exact h.s0.2.1
  have hcS : w.cell? ⟨a, 0, none⟩ = some (.int .u64 (S : Nat)) := by obtain ⟨_, _, h⟩ := hM; exact h.c0
  have hfl : ∀ x, f x < 18446744073709551616 := by obtain ⟨_, _, h⟩ := hM; exact h.fl
  have hv64 : va < 18446744073709551616 := by omega
  have h4 := isLv_of hl0
  generalize hr0 : wk S f va (4 - l0).toNat tb0 = r0
  have HM := Hid.mk hM
  have HF := Hid.mk hF
  have HC := Hid.mk hcS
  have HL := Hid.mk hfl
  have HR0 := Hid.mk hr0
  have hT : isTab l0 tb0 = true := by unfold isTab; rw [hl0]; exact decide_eq_true htm
  have hLo : lowB va = true := decide_eq_true hva
  clear hM hF hcS hfl hr0
  go_enter Tryz.func107, Tryz.ntmps107
  go_wp2_with fail
  refine (isTable_any l0 tb0 htl _).mono ?_
  rintro e w1 ⟨rfl, hw1⟩
  have h8 : w1.heap[w.heap.size]? = some (.cells (wayL [] 0 zL zF).toArray 193 (0, 0)) := by rw [← hw1]; exact heap_alloc2_old _ _ _
  have h9 : w1.heap[w.heap.size + 1]? = some (.cells (wayL [] 0 zL zF).toArray 193 (0, 0)) := by rw [← hw1]; exact heap_alloc2_new _ _ _
  have hB : Below w.heap.size w w1 := by rw [← hw1]; exact below_tr (below_new _ _) (below_new _ _)
  clear hw1
  rw [hT]
  go_wp2_with (go_at_call 128; refine (low_any va _).mono ?_; rintro e w2 ⟨rfl, rfl⟩; rw [hLo])
  have hst : FRel w w1 S f va r0 (3 - l0).toNat tb0 [] := ⟨by omega, htm, htl, by simp; omega, h8, h9, hB, by rw [List.nil_append, show (3 - l0).toNat + 1 = (4 - l0).toNat by omega, HR0.out], by rw [show (3 - l0).toNat + 1 = (4 - l0).toNat by omega, HR0.out]⟩
  have HST := Hid.mk hst
  clear hst h8 h9 hB hT hLo
  go_loopw [1, 2] (fun s1 s2 wr => ∃ (k tb : Nat) (L : WL), s1 = .int .i64 (3 - (k : Int)) ∧ s2 = .int .u64 (tb : Nat) ∧ FRel w wr S f va r0 k tb L) (fun s1 _ _ => (3 - intOf s1).toNat)
  case atStart => exact ⟨(3 - l0).toNat, tb0, [], by congr 1; omega, rfl, HST.out⟩
  case round =>
    clear HST HR0
    obtain ⟨k, tb, L, rfl, rfl, hR⟩ := hrel
    obtain ⟨hk3, htm', htl', hll, h8, h9, hB, he1, he2⟩ := hR
    have hlv : isLv (3 - (k : Int)) = true := decide_eq_true (by omega)
    generalize hl : (3 - (k : Int)) = l at *
    have hix : idxI va l = ((idxN va l : Nat) : Int) := by unfold idxI; rw [if_pos hlv]
    have hI := fun w => index_any va l hv64 w
    rw [hix] at hI
    have hi := idxN_lt va l
    have hE := fun w => entry_any tb (idxN va l) hi htm' htl' w
    generalize htt : tb + 8 * idxN va l = t at *
    have ht64 : t < 18446744073709551616 := by omega
    generalize hii : idxN va l = i at *
    clear hix
    go_wp2_with fail
    refine (hI _).mono ?_
    rintro e w2 ⟨rfl, hb⟩
    replace h8 := block_later hb h8
    replace h9 := block_later hb h9
    replace hB := below_tr hB hb
    clear hb hI
    go_wp2_with fail
    refine (hE _).mono ?_
    rintro e w3 ⟨rfl, rfl⟩
    clear hE
    go_wp2_with fail
    refine (read_c (HM.out.below hB) t ht64).mono ?_
    rintro e w4 ⟨rfl, hb⟩
    replace h8 := block_later hb h8
    replace h9 := block_later hb h9
    replace hB := below_tr hB hb
    clear hb
    have hx64 := HL.out t
    by_cases he : errA S t = 0
    · rw [he]
      have c98 := (cell_of_row _ (w.heap.size + 1) 8 _ _ _ h9).trans ((List.getElem?_toArray ..).trans (wayL_n L L.length zL zF (by omega)))
      have hN4 : (L.length : Int) < 4 := by omega
      have HT := Hid.mk (And.intro htt he)
      generalize hfx : f t = x at *
      have hLL : (L ++ [(t, x)]).length = L.length + 1 := by simp
      have hL4 : (L ++ [(t, x)]).length ≤ 4 := by omega
      clear he
      go_wp2_with (first
        | (refine wpList_store_seg rfl 81 _ _ rfl (w.heap.size + 1) (L.length * 2) _ #[.int .u64 t, .int .u64 x] rfl rfl rfl 193 _ h9 (by rw [wayL_size _ _ _ _ (by omega) rfl rfl]; show L.length * 2 + 2 ≤ 19; omega) info_step (by simp [Value.oneCell']) _ (wayL_step L L.length zL zF t x (by omega)) ?_
           intro w5 k9 ht
           have k8 := block_turn ht h8 (by omega)
           have hB1 := below_turn hB ht (by omega)
           have d98 := (cell_of_row _ (w.heap.size + 1) 8 _ _ _ k9).trans ((List.getElem?_toArray ..).trans (wayL_n (L ++ [(t, x)]) L.length zL zF hL4))
           clear ht h8 h9 hB c98)
        | (refine wpList_store_seg rfl 3 _ _ rfl (w.heap.size + 1) 8 (.int .i64 ((L ++ [(t, x)]).length : Nat)) #[.int .i64 ((L ++ [(t, x)]).length : Nat)] rfl (by rw [hLL]; rfl) rfl 193 _ k9 (by rw [wayL_size _ _ _ _ hL4 rfl rfl]; show 8 + 1 ≤ 19; omega) info_int (by simp [Value.oneCell']) _ (wayL_read (L ++ [(t, x)]) L.length zL zF _ hL4) ?_
           intro w6 h9 ht
           have h8 := block_turn ht k8 (by omega)
           have hB := below_turn hB1 ht (by omega)
           clear ht k8 k9 hB1 d98)
        | fail)
      refine (meaning_any l x hlv hx64 _ (HF.out.later hB) (cell_later hB HC.out) hS).mono ?_
      rintro e w7 ⟨rfl, hb⟩
      replace h8 := block_later hb h8
      replace h9 := block_later hb h9
      replace hB := below_tr hB hb
      clear hb
      have HT2 : Hid (t = tb + 8 * idxN va l) := by show t = _; rw [hii, htt]
      by_cases hm : mf S l x = 0
      · have e1 : mD S l x = d7 l x := by unfold mD; rw [if_pos hm]
        have e2 : mFt S l x = zF := by unfold mFt; rw [if_pos hm]
        rw [e1, e2]
        have h7 := seven_d7 l x
        clear e1 e2
        by_cases hk : rdK l x = 1
        · have hk0 : k ≠ 0 := by
            rintro rfl
            have : l = 3 := by omega
            subst this
            exact rdK_deep x hk
          have hw := wk_table (f := f) (va := va) hl.symm HT2.out HT.out.2 (by rw [hfx]; exact hm) (by rw [hfx]; exact hk)
          rw [hfx] at hw
          rw [hw] at he1 he2
          have HE1 := Hid.mk he1
          have HE2 := Hid.mk he2
          rw [hk] at h7
          have hOm := rdO_mod x
          have hOl := rdO_lt x
          generalize rdO x = O at *
          generalize d7 l x = D at *
          clear he1 he2 hw hk hm
          go_wp2_with (first
        | (refine wpList_store_seg rfl 60 _ _ rfl w7.heap.size 0 _ D.toArray rfl rfl rfl 60 zD.toArray (heap_alloc2_old _ _ _) (by rw [h7.len]; decide) (by rw [h7.len]; exact info_desc) h7.one D.toArray h7.seg ?_
           intro w8 q13 ht
           have q14 := block_turn ht (heap_alloc2_new w7 _ _) (by omega)
           have p8 := block_turn ht (block_later (below_tr (below_new _ _) (below_new _ _)) h8) (Nat.ne_of_lt (block_lt h8))
           have p9 := block_turn ht (block_later (below_tr (below_new _ _) (below_new _ _)) h9) (Nat.ne_of_lt (block_lt h9))
           have hB0 := below_turn (below_tr hB (below_tr (below_new _ _) (below_new _ _))) ht hB.size
           have hs7 := block_lt h9
           clear ht h8 h9 hB)
        | (refine wpList_store_seg rfl 48 _ _ rfl (w7.heap.size + 1) 0 _ #[.int .i64 0, .int .i64 0] rfl rfl rfl 48 zF.toArray q14 (Nat.le_refl 2) info_fault (two_one 0 0) #[.int .i64 0, .int .i64 0] rfl ?_
           intro w9 p14 ht
           have p13 := block_turn ht q13 (by omega)
           have h8 := block_turn ht p8 (by omega)
           have h9 := block_turn ht p9 (by omega)
           have hB := below_turn hB0 ht (by omega)
           have c140 := cell_of_row w9 (w7.heap.size + 1) 0 _ _ _ p14
           have c141 := cell_of_row w9 (w7.heap.size + 1) 1 _ _ _ p14
           have c130 := (cell_of_row w9 w7.heap.size 0 _ _ _ p13).trans h7.c0
           have c131 := (cell_of_row w9 w7.heap.size 1 _ _ _ p13).trans h7.c1
           clear ht q13 q14 p8 p9 hB0 p14)
        | fail)
          go_quiet (fail)
          go_wp2
          refine ⟨⟨k - 1, O, L ++ [(t, x)], by congr 1; omega, rfl, ⟨by omega, hOm, hOl, by omega, h8, h9, below_tr hB (below_drewN ⟨_, rfl⟩), ?_, ?_⟩⟩, by simp [intOf]; omega⟩
          · rw [show k - 1 + 1 = k by omega, List.append_assoc]
            exact HE1.out
          · rw [show k - 1 + 1 = k by omega]
            exact HE2.out
        · have HW : Hid (wayR r0 = wayL (L ++ [(t, x)]) (L ++ [(t, x)]).length (.int .i64 l :: d7 l x) zF) := by
            show wayR r0 = _
            have hw := wk_leaf (f := f) (va := va) hl.symm HT2.out HT.out.2 (by rw [hfx]; exact hm) (by rw [hfx]; exact hk)
            rw [hfx] at hw
            rw [hw] at he1 he2
            unfold wayR
            rw [← he1, ← he2]
            rfl
          have hone8 : (#[.int .i64 l, .int .i64 (rdK l x), .int .u64 (rdO x : Nat), .bool (rdU l x), .bool (rdR l x), .bool (rdX l x), .bool (rdS l x), .int .i64 (rdA l x)] : Array Value).all (·.oneCell') = true := all_oneCell_toArray (one_leaf l x)
          clear he1 he2 hm
          go_wp2_with (first
        | (refine wpList_store_seg rfl 60 _ _ rfl w7.heap.size 0 _ (d7 l x).toArray rfl rfl rfl 60 zD.toArray (heap_alloc2_old _ _ _) (by rw [h7.len]; decide) (by rw [h7.len]; exact info_desc) h7.one (d7 l x).toArray h7.seg ?_
           intro w8 q13 ht
           have q14 := block_turn ht (heap_alloc2_new w7 _ _) (by omega)
           have p8 := block_turn ht (block_later (below_tr (below_new _ _) (below_new _ _)) h8) (Nat.ne_of_lt (block_lt h8))
           have p9 := block_turn ht (block_later (below_tr (below_new _ _) (below_new _ _)) h9) (Nat.ne_of_lt (block_lt h9))
           have hB0 := below_turn (below_tr hB (below_tr (below_new _ _) (below_new _ _))) ht hB.size
           have hs7 := block_lt h9
           clear ht h8 h9 hB)
        | (refine wpList_store_seg rfl 48 _ _ rfl (w7.heap.size + 1) 0 _ #[.int .i64 0, .int .i64 0] rfl rfl rfl 48 zF.toArray q14 (Nat.le_refl 2) info_fault (two_one 0 0) #[.int .i64 0, .int .i64 0] rfl ?_
           intro w9 p14 ht
           have p13 := block_turn ht q13 (by omega)
           have h8 := block_turn ht p8 (by omega)
           have h9 := block_turn ht p9 (by omega)
           have hB := below_turn hB0 ht (by omega)
           have c140 := cell_of_row w9 (w7.heap.size + 1) 0 _ _ _ p14
           have c141 := cell_of_row w9 (w7.heap.size + 1) 1 _ _ _ p14
           have c130 := (cell_of_row w9 w7.heap.size 0 _ _ _ p13).trans h7.c0
           have c131 := (cell_of_row w9 w7.heap.size 1 _ _ _ p13).trans h7.c1
           clear ht q13 q14 p8 p9 hB0 p14)
        | (refine wpList_load_seg rfl 60 _ rfl w7.heap.size 0 rfl 60 (d7 l x).toArray p13 [.int .i64 (rdK l x), .int .u64 (rdO x : Nat), .bool (rdU l x), .bool (rdR l x), .bool (rdX l x), .bool (rdS l x), .int .i64 (rdA l x)] (fun j v hv => by rw [Nat.zero_add, List.getElem?_toArray]; exact hv) _ Tryz.underlying60 rfl info_desc ?_)
        | (refine wpList_store_seg rfl 62 _ _ rfl (w.heap.size + 1) 9 _ #[.int .i64 l, .int .i64 (rdK l x), .int .u64 (rdO x : Nat), .bool (rdU l x), .bool (rdR l x), .bool (rdX l x), .bool (rdS l x), .int .i64 (rdA l x)] rfl rfl rfl 193 _ h9 (by rw [wayL_size _ _ _ _ hL4 rfl rfl]; show 9 + 8 ≤ 19; omega) info_leaf hone8 _ (wayL_leaf (L ++ [(t, x)]) (L ++ [(t, x)]).length zL zF [.int .i64 l, .int .i64 (rdK l x), .int .u64 (rdO x : Nat), .bool (rdU l x), .bool (rdR l x), .bool (rdX l x), .bool (rdS l x), .int .i64 (rdA l x)] hL4 rfl) ?_
           intro w10 k9 ht
           have k8 := block_turn ht h8 (by omega)
           have hB2 := below_turn hB ht (by omega)
           clear ht h8 h9 hB)
        | (refine wpList_load_row rfl 193 _ rfl (w.heap.size + 1) rfl _ _ _ _ k9 Tryz.underlying193 rfl (by rw [wayL_size _ _ _ _ hL4 rfl rfl]; exact info_way) ?_)
        | (refine wpList_store_row rfl 193 _ _ rfl w.heap.size (wayL (L ++ [(t, x)]) (L ++ [(t, x)]).length (.int .i64 l :: d7 l x) zF).toArray rfl rfl 193 _ k8 (by rw [wayL_size _ _ _ _ hL4 rfl rfl]; exact info_way) (by rw [wayL_size _ _ _ _ hL4 rfl rfl]; rfl) (wayL_one _ _ _ _ (one_leaf l x) one_zF) ?_))
          refine bodyPost_ret (v := .agg (wayR r0).toArray) ?_ rfl ⟨rfl, below_setRow hB2 (Nat.le_refl _) _⟩
          rw [HW.out]
          exact results_cell_row rfl _ _ w.heap.size 193 _ _ _ rfl (setRow_heap _ _ _ _ _ _ k8) Tryz.underlying193 rfl (by rw [wayL_size _ _ _ _ hL4 rfl rfl]; exact info_way)
      · have e1 : mD S l x = zD := by unfold mD; rw [if_neg hm]
        have e2 : mFt S l x = [.int .i64 (mf S l x), .int .i64 l] := by unfold mFt; rw [if_neg hm]
        rw [e1, e2]
        have h7 := seven_zD
        have HW : Hid (wayR r0 = wayL (L ++ [(t, x)]) (L ++ [(t, x)]).length zL [.int .i64 (mf S l x), .int .i64 l]) := by
          show wayR r0 = _
          have hw := wk_fault (f := f) (va := va) hl.symm HT2.out HT.out.2 (by rw [hfx]; exact hm)
          rw [hfx] at hw
          rw [hw] at he1 he2
          unfold wayR
          rw [← he1, ← he2]
          unfold leafL faultL
          rw [if_neg hm, if_neg hm]
        clear e1 e2
        generalize mf S l x = m at *
        go_wp2_with (first
        | (refine wpList_store_seg rfl 60 _ _ rfl w7.heap.size 0 _ zD.toArray rfl rfl rfl 60 zD.toArray (heap_alloc2_old _ _ _) (by rw [h7.len]; decide) (by rw [h7.len]; exact info_desc) h7.one zD.toArray h7.seg ?_
           intro w8 q13 ht
           have q14 := block_turn ht (heap_alloc2_new w7 _ _) (by omega)
           have p8 := block_turn ht (block_later (below_tr (below_new _ _) (below_new _ _)) h8) (Nat.ne_of_lt (block_lt h8))
           have p9 := block_turn ht (block_later (below_tr (below_new _ _) (below_new _ _)) h9) (Nat.ne_of_lt (block_lt h9))
           have hB0 := below_turn (below_tr hB (below_tr (below_new _ _) (below_new _ _))) ht hB.size
           have hs7 := block_lt h9
           clear ht h8 h9 hB)
        | (refine wpList_store_seg rfl 48 _ _ rfl (w7.heap.size + 1) 0 _ #[.int .i64 m, .int .i64 l] rfl rfl rfl 48 zF.toArray q14 (Nat.le_refl 2) info_fault (two_one m l) #[.int .i64 m, .int .i64 l] rfl ?_
           intro w9 p14 ht
           have p13 := block_turn ht q13 (by omega)
           have h8 := block_turn ht p8 (by omega)
           have h9 := block_turn ht p9 (by omega)
           have hB := below_turn hB0 ht (by omega)
           have c140 := cell_of_row w9 (w7.heap.size + 1) 0 _ _ _ p14
           have c141 := cell_of_row w9 (w7.heap.size + 1) 1 _ _ _ p14
           have c130 := (cell_of_row w9 w7.heap.size 0 _ _ _ p13).trans h7.c0
           have c131 := (cell_of_row w9 w7.heap.size 1 _ _ _ p13).trans h7.c1
           clear ht q13 q14 p8 p9 hB0 p14)
        | (refine wpList_store_seg rfl 48 _ _ rfl (w.heap.size + 1) 17 _ #[.int .i64 m, .int .i64 l] rfl rfl rfl 193 _ h9 (by rw [wayL_size _ _ _ _ hL4 rfl rfl]; exact Nat.le_refl 19) info_fault (two_one m l) _ (wayL_fault (L ++ [(t, x)]) (L ++ [(t, x)]).length zL zF [.int .i64 m, .int .i64 l] hL4 rfl rfl) ?_
           intro w10 k9 ht
           have k8 := block_turn ht h8 (by omega)
           have hB2 := below_turn hB ht (by omega)
           clear ht h8 h9 hB)
        | (refine wpList_load_row rfl 193 _ rfl (w.heap.size + 1) rfl _ _ _ _ k9 Tryz.underlying193 rfl (by rw [wayL_size _ _ _ _ hL4 rfl rfl]; exact info_way) ?_)
        | (refine wpList_store_row rfl 193 _ _ rfl w.heap.size (wayL (L ++ [(t, x)]) ((L ++ [(t, x)])).length zL [.int .i64 m, .int .i64 l]).toArray rfl rfl 193 _ k8 (by rw [wayL_size _ _ _ _ hL4 rfl rfl]; exact info_way) (by rw [wayL_size _ _ _ _ hL4 rfl rfl]; rfl) (wayL_one _ _ _ _ one_zL (one_two _ _)) ?_))
        refine bodyPost_ret (v := .agg (wayR r0).toArray) ?_ rfl ⟨rfl, below_setRow hB2 (Nat.le_refl _) _⟩
        rw [HW.out]
        exact results_cell_row rfl _ _ w.heap.size 193 _ _ _ rfl (setRow_heap _ _ _ _ _ _ k8) Tryz.underlying193 rfl (by rw [wayL_size _ _ _ _ hL4 rfl rfl]; exact info_way)
    · have HW : Hid (wayR r0 = wayL L L.length zL [.int .i64 4, .int .i64 l]) := by
        show wayR r0 = _
        have hk := wk_err (f := f) (va := va) hl.symm (show t = tb + 8 * idxN va l by rw [hii, htt]) he
        rw [hk] at he1 he2
        unfold wayR
        rw [← he1, ← he2, List.append_nil]
        rfl
      have hL4 : L.length ≤ 4 := by omega
      generalize errA S t = E at *
      go_wp2_with (first
        | (refine wpList_store_seg rfl 48 _ _ rfl (w.heap.size + 1) 17 _ #[.int .i64 4, .int .i64 l] rfl rfl rfl 193 _ h9 (by rw [wayL_size _ _ _ _ hL4 rfl rfl]; exact Nat.le_refl 19) info_fault (two_one 4 l) _ (wayL_fault L L.length zL zF [.int .i64 4, .int .i64 l] hL4 rfl rfl) ?_
           intro w5 k9 ht
           have k8 := block_turn ht h8 (by omega)
           have hB2 := below_turn hB ht (by omega)
           clear ht h8 h9 hB)
        | (refine wpList_load_row rfl 193 _ rfl (w.heap.size + 1) rfl _ _ _ _ k9 Tryz.underlying193 rfl (by rw [wayL_size _ _ _ _ hL4 rfl rfl]; exact info_way) ?_)
        | (refine wpList_store_row rfl 193 _ _ rfl w.heap.size (wayL L (L).length zL [.int .i64 4, .int .i64 l]).toArray rfl rfl 193 _ k8 (by rw [wayL_size _ _ _ _ hL4 rfl rfl]; exact info_way) (by rw [wayL_size _ _ _ _ hL4 rfl rfl]; rfl) (wayL_one _ _ _ _ one_zL (one_two _ _)) ?_))
      refine bodyPost_ret (v := .agg (wayR r0).toArray) ?_ rfl ⟨rfl, below_setRow hB2 (Nat.le_refl _) _⟩
      rw [HW.out]
      exact results_cell_row rfl _ _ w.heap.size 193 _ _ _ rfl (setRow_heap _ _ _ _ _ _ k8) Tryz.underlying193 rfl (by rw [wayL_size _ _ _ _ hL4 rfl rfl]; exact info_way)
end Go.Proofs.YtndjhedoandinaaGreatDoor
