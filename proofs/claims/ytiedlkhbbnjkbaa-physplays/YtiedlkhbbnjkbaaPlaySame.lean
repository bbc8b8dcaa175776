/- Has a memory what the document's has? -/
import Derived.Test.YtiedlkhbbnjkbaaRefPages
import Derived.Test.YtiedlkhbbnjkbaaRefClear
namespace Go.Proofs.Ytiedlkhbbnjkbaa
open Go.RowKit Go.Maps

theorem cell_later {W w1 : World} (hb : Below W.heap.size W w1) {a : Addr} {x : Value} (h : W.cell? a = some x) : w1.cell? a = some x := by
  rw [hb.cell (World.block_lt_of_cell? W a h), h]

theorem Ref.words {L : WL} {f : Nat → Nat} (h : Ref L f) {S : Nat} (hS : S % 8 = 0) (ho : ∀ x, (x % 8 ≠ 0 ∨ S ≤ x) → f x = 0) : wordsN f S = L.length := by
  have h1 : L.map (·.1) = ((List.range (S / 8)).filter (fun i => f (8 * i) != 0)).map (fun i => 8 * i) := by
    refine asc_eq ?_ ?_ ?_
    · rw [List.pairwise_map]; exact h.1
    · rw [List.pairwise_map]
      refine List.Pairwise.imp ?_ (List.Pairwise.filter _ List.pairwise_lt_range)
      intro a b hab
      show 8 * a < 8 * b
      omega
    · intro x
      rw [List.mem_map, List.mem_map]
      constructor
      · rintro ⟨⟨y, z⟩, hm, rfl⟩
        obtain ⟨rfl, h0⟩ := (h.2 y z).1 hm
        have h8 : y % 8 = 0 := Classical.byContradiction fun c => h0 (ho y (Or.inl c))
        have hl : y < S := Classical.byContradiction fun c => h0 (ho y (Or.inr (by omega)))
        refine ⟨y / 8, List.mem_filter.2 ⟨List.mem_range.2 (by omega), ?_⟩, by show 8 * (y / 8) = y; omega⟩
        have e : 8 * (y / 8) = y := by omega
        rw [e]
        simpa using h0
      · rintro ⟨i, hi, rfl⟩
        obtain ⟨_, hi2⟩ := List.mem_filter.1 hi
        exact ⟨(8 * i, f (8 * i)), (h.2 _ _).2 ⟨rfl, by simpa using hi2⟩, rfl⟩
  have h2 := congrArg List.length h1
  rw [List.length_map, List.length_map] at h2
  rw [h2]
  unfold wordsN cnt
  rw [List.countP_eq_length_filter]

theorem Ref.pages {L : WL} {f : Nat → Nat} (h : Ref L f) {S : Nat} (ho : ∀ x, (x % 8 ≠ 0 ∨ S ≤ x) → f x = 0) {ts : List Nat} (ha : ts.Pairwise (fun x y => x < y)) (hm : ∀ x, x ∈ ts ↔ Pgd f x) : ts = SP L L.length := by
  obtain ⟨h1, h2, _⟩ := SP_spec h.1 L.length (Nat.le_refl _)
  refine asc_eq ha h1 fun x => ?_
  rw [hm, h2]
  constructor
  · rintro ⟨hx, i, hi, h0⟩
    obtain ⟨j, hj, he⟩ := List.getElem_of_mem ((h.2 (x + 8 * i) _).2 ⟨rfl, h0⟩)
    refine ⟨j, hj, ?_⟩
    rw [getElem!_pos L j hj, he]
    unfold pgA
    show x = (x + 8 * i) - (x + 8 * i) % 4096
    omega
  · rintro ⟨j, hj, rfl⟩
    obtain ⟨e1, e2⟩ := h.mem hj
    rw [e1] at e2
    generalize L[j]!.1 = y at *
    have h8 : y % 8 = 0 := Classical.byContradiction fun c => e2 (ho y (Or.inl c))
    refine ⟨by unfold pgA; omega, y % 4096 / 8, by omega, ?_⟩
    have e : pgA y + 8 * (y % 4096 / 8) = y := by unfold pgA; omega
    rw [e]
    exact e2

set_option maxRecDepth 1000000 in
set_option maxHeartbeats 8000000 in
theorem same_l {w : World} {X B : Nat → Prop} {a S n : Nat} {f : Nat → Nat} {v : Value} {L : WL} (hM : MemAt w X a S n f) (hn : n ≤ 100000000) (hP : Psl w B v L) (hR : Ref L f) (hlen : L.length < 1000000) :
    Calls Try.prog 18 #[.pointer (some ⟨a, 0, none⟩), .agg #[.int .u64 (S : Nat), v]] w fun e w' => e = .returned (.bool true) ∧ Below w.heap.size w w' := by
  have hM0 := hM
  obtain ⟨mb, pg, hMM⟩ := hM0
  have hout := hMM.out
  have hs0 := hMM.s0
  have hc0 := hMM.c0
  clear hMM
  have hyb : ∀ j, j < L.length → L[j]!.1 % 8 = 0 ∧ L[j]!.1 < S := fun j hj => by
    obtain ⟨e1, e2⟩ := hR.mem hj
    rw [e1] at e2
    exact ⟨Classical.byContradiction fun c => e2 (hout _ (Or.inl c)), Classical.byContradiction fun c => e2 (hout _ (Or.inr (by omega)))⟩
  have hwN : wordsN f S = L.length := hR.words (by omega) hout
  have hspl : (SP L L.length).length ≤ L.length := (SP_spec hR.1 _ (Nat.le_refl _)).2.2.1
  have hrp := fun (w' : World) (hb : Below w.heap.size w w') => rpages_c (S := S) (hP.below hb) hR hlen (fun j hj => by have := (hyb j hj).2; omega)
  have hwd := fun (w' : World) (hb : Below w.heap.size w w') => words_c (hM.below hb)
  rw [hwN] at hwd
  have hpgs := fun (w' : World) (hb : Below w.heap.size w w') => pages_c (hM.below hb) hn
  have hsz := fun (w' : World) (hb : Below w.heap.size w w') => size_c (w := w') (a := a) (S := S) ((hb.cell (p := ⟨a, 0, none⟩) (World.block_lt_of_cell? _ _ hc0)).trans hc0)
  have HPG : Hid (∀ ts : List Nat, ts.Pairwise (fun x y => x < y) → (∀ x, x ∈ ts ↔ Pgd f x) → ts = SP L L.length) := fun ts h1 h2 => hR.pages hout h1 h2
  have HRD : Hid (∀ j, j < L.length → ∀ w', Below w.heap.size w w' → Calls Try.prog 13 #[.pointer (some ⟨a, 0, none⟩), .int .u64 (L[j]!.1 : Nat)] w' fun e w'' => e = .returned (.tuple #[.int .u64 (L[j]!.2 : Nat), .int .i64 0]) ∧ Below w'.heap.size w' w'') := fun j hj w' hb => by
    have h1 := read_c (hM.below hb) L[j]!.1 (by have := (hyb j hj).2; omega)
    rw [← (hR.mem hj).1, errA_zero (hyb j hj).1 (hyb j hj).2] at h1
    exact h1
  obtain ⟨p, cap, rfl, hc⟩ := hP.form
  have HP := Hid.mk hc
  have HWD := Hid.mk hwd
  have HSZ := Hid.mk hsz
  clear hM hP hR hout hs0 hc0 hyb hwN hwd hsz hc
  generalize SP L L.length = sp at *
  generalize hN : L.length = N at *
  have HN := Hid.mk hN
  clear hN
  go_enter Try.func18, Try.ntmps18
  go_wp2_with fail
  refine (hrp _ ((Below.refl _ _).alloc (Nat.le_refl _) _)).mono ?_
  rintro e w1 ⟨v5, rfl, hW5, hb1⟩
  have k0 : w1.heap[w.heap.size]? = some (.cells #[.int .u64 (S : Nat), .slice p N cap] 32) := (hb1.block _ (by simp)).trans (heap_alloc_new _ _)
  have hB1 : Below w.heap.size w w1 := below_tr ((Below.refl _ _).alloc (Nat.le_refl _) _) hb1
  have hlt1 : w.heap.size < w1.heap.size := (Array.getElem?_eq_some_iff.1 k0).1
  obtain ⟨p5, cap5, rfl, -⟩ := hW5.form
  clear hrp hb1
  go_wp2_with fail
  refine (hpgs _ hB1).mono ?_
  rintro e w2 ⟨v6, ts, rfl, hta, htm, hW6, hb2⟩
  obtain rfl := HPG.out ts hta htm
  have HW5 := Hid.mk (hW5.below hb2)
  have hB2 : Below w.heap.size w w2 := below_tr hB1 hb2
  have k0 : w2.heap[w.heap.size]? = some (.cells #[.int .u64 (S : Nat), .slice p N cap] 32) := (hb2.block _ hlt1).trans k0
  have hlt2 : w.heap.size < w2.heap.size := (Array.getElem?_eq_some_iff.1 k0).1
  obtain ⟨c0, c1, -, -⟩ := row2_facts k0
  obtain ⟨p6, cap6, rfl, -⟩ := hW6.form
  have HW6 := Hid.mk hW6
  have HB2 := Hid.mk hB2
  have HK := Hid.mk k0
  clear hpgs hW6 hb2 hB1 hW5 hB2 k0 hta htm HPG
  have hbe : Below w2.heap.size w2 w2 := Below.refl _ _
  go_wp2
  go_region_held3 (fun w' => w'.cell? ⟨w.heap.size, 0, none⟩ = some (.int .u64 (S : Nat)) ∧ w'.cell? ⟨w.heap.size, 1, none⟩ = some (.slice p N cap) ∧ Below w2.heap.size w2 w')
    ((go_split_ands; refine ⟨?_, ?_, ?_⟩ <;> first | (assumption; done) | exact cell_later hbm (by assumption) | exact below_tr (by assumption) hbm | exact Below.drew (by assumption) | (go_keep; done)))
    (first
      | (go_at_call 32; go_split_ands; refine (HSZ.out _ (below_tr HB2.out (by assumption))).mono ?_; rintro e w' ⟨rfl, rfl⟩)
      | (go_at_call 22; go_split_ands; refine (HWD.out _ (below_tr HB2.out (by assumption))).mono ?_; rintro e w' ⟨rfl, hbm⟩))
  have hB3 : Below w2.heap.size w2 w' := by (go_split_ands; assumption)
  have HB3 := Hid.mk hB3
  clear hB3 hbe c0 c1 hbm
  generalize hlt : ts.length = M at *
  have HL := Hid.mk hlt
  clear hlt
  go_wp2
  go_loopw [39] (fun s wr => ∃ q : Nat, q ≤ M ∧ s = .int .i64 q ∧ Below w2.heap.size w2 wr) (fun s _ => M - (intOf s).toNat)
  case atStart => exact ⟨0, by omega, rfl, HB3.out⟩
  case round =>
    clear HB3
    obtain ⟨q, hq, rfl, hR⟩ := hrel
    have HR := Hid.mk hR
    clear hR
    by_cases hq2 : q < M
    · obtain ⟨g5, rfl, e5⟩ := (HW5.out.below HR.out).at q (by rw [HL.out]; exact hq2)
      obtain ⟨g6, rfl, e6⟩ := (HW6.out.below HR.out).at q (by rw [HL.out]; exact hq2)
      generalize ts[q]! = y at *
      go_wp2
      exact ⟨⟨q + 1, by omega, by go_num, HR.out⟩, by simp [intOf]; omega⟩
    · obtain rfl : q = M := by omega
      have c1 : wr.cell? ⟨w.heap.size, 1, none⟩ = some (.slice p N cap) := (HR.out.cell (p := ⟨w.heap.size, 1, none⟩) hlt2).trans (row2_facts HK.out).2.1
      clear HW5 HW6
      go_wp2
      go_loopw [54] (fun s wr => ∃ q : Nat, q ≤ N ∧ s = .int .i64 q ∧ Below w2.heap.size w2 wr) (fun s _ => N - (intOf s).toNat)
      case atStart => exact ⟨0, by omega, rfl, HR.out⟩
      case round =>
        clear HR c1
        obtain ⟨j, hj, rfl, hR⟩ := hrel
        by_cases hj2 : j < N
        · obtain ⟨g, rfl, hg, q1, q2⟩ := HP.out j hj2
          have q1 := ((below_tr HB2.out hR).cell (p := ⟨g, _, none⟩) hg).trans q1
          have q2 := ((below_tr HB2.out hR).cell (p := ⟨g, _, none⟩) hg).trans q2
          have hrd := HRD.out j hj2 (wr.alloc (.cells #[.int .u64 (L[j]!.1 : Nat), .int .u64 (L[j]!.2 : Nat)] 59)) ((below_tr HB2.out hR).alloc (below_tr HB2.out hR).size _)
          generalize L[j]! = pr at *
          obtain ⟨y, z⟩ := pr
          simp only at q1 q2 hrd
          have HR := Hid.mk hR
          clear hR
          go_wp2_with fail
          refine hrd.mono ?_
          rintro e w7 ⟨rfl, hb7⟩
          have d1 : w7.cell? ⟨wr.heap.size, 1, none⟩ = some (.int .u64 (z : Nat)) := boxed hb7 1
          have HB7 : Hid (Below w2.heap.size w2 w7) := below_tr (HR.out.alloc HR.out.size _) hb7
          clear hrd hb7 q1 q2
          go_wp2
          exact ⟨⟨j + 1, by omega, by go_num, HB7.out⟩, by simp [intOf]; omega⟩
        · obtain rfl : j = N := by omega
          have HR := Hid.mk hR
          clear hR
          go_wp2
          go_ret
          exact ⟨rfl, below_tr HB2.out HR.out⟩
end Go.Proofs.Ytiedlkhbbnjkbaa
