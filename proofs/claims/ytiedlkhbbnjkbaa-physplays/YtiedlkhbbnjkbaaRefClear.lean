/- The document's Clear. -/
import Derived.Test.YtiedlkhbbnjkbaaRefWrite
namespace Go.Proofs.Ytiedlkhbbnjkbaa
open Go.RowKit Go.Maps

set_option maxRecDepth 100000 in
set_option maxHeartbeats 8000000 in
theorem rclear_c {w : World} {B : Nat → Prop} {S : Nat} {v : Value} {L : WL} (hP : Psl w B v L) (hlen : L.length < 1000000) (hS : S ≤ 4294967296) (x n : Nat) (hx : x < 18446744073709551616) (hn : n < 18446744073709551616) :
    Calls Try.prog 15 #[.agg #[.int .u64 (S : Nat), v], .int .u64 (x : Nat), .int .u64 (n : Nat)] w fun e w' => ∃ v', e = .returned (.tuple #[.agg #[.int .u64 (S : Nat), v'], .int .i64 (errC S x n)]) ∧ Psl w' (fun g => B g ∨ w.heap.size ≤ g) v' (if errC S x n = 0 then SC x n L L.length else L) ∧ Below w.heap.size w w' := by
  obtain ⟨p, cap, rfl, hc⟩ := hP.form
  generalize hN : L.length = N at *
  have HN := Hid.mk hN
  have HC := Hid.mk hc
  have HP := Hid.mk hP
  clear hc hP hN
  obtain ⟨w1, hw1⟩ : ∃ w1, w1 = (w.alloc (.cells #[.int .u64 (S : Nat), .slice p N cap] 32)).alloc (.cells #[.int .u64 0, .slice none 0 0] 32) := ⟨_, rfl⟩
  have HB : Hid (Below w.heap.size w w1) := by
    show Below w.heap.size w w1
    rw [hw1]; exact ((Below.refl _ _).alloc (Nat.le_refl _) _).alloc (by simp) _
  have hs1 : w.heap.size + 2 ≤ w1.heap.size := by rw [hw1]; simp
  have HK0 : Hid (w1.heap[w.heap.size]? = some (.cells #[.int .u64 (S : Nat), .slice p N cap] 32)) := by
    show w1.heap[w.heap.size]? = _
    rw [hw1]; exact heap_alloc2_old _ _ _
  have HK1 : Hid (w1.heap[w.heap.size + 1]? = some (.cells #[.int .u64 0, .slice none 0 0] 32)) := by
    show w1.heap[w.heap.size + 1]? = _
    rw [hw1]; exact heap_alloc2_new _ _ _
  have HW1 := Hid.mk hw1
  clear hw1
  unfold errC
  by_cases h8 : x % 8 = 0
  rotate_left
  · rw [if_pos (Or.inl h8), if_neg (by decide)]
    clear HK0 HK1 HW1 HC
    have z1 : ¬ ((x : Int) % 8 = 0) := by omega
    go_enter Try.func15, Try.ntmps15
    go_wp2
    refine bodyPost_ret (v := .tuple #[.agg #[.int .u64 (S : Nat), .slice p N cap], .int .i64 13]) ?_ rfl ⟨_, rfl, ?_, ?_⟩
    · rw [results_cell_tmp rfl]
      go_simp
    · refine (HP.out.below ?_).mono (fun g hg => Or.inl hg)
      (repeat' (first | exact Below.refl _ _ | refine Below.setCell ?_ (by simp) _ | refine Below.alloc ?_ (by simp) _))
    · (repeat' (first | exact Below.refl _ _ | refine Below.setCell ?_ (by simp) _ | refine Below.alloc ?_ (by simp) _))
  by_cases h8n : n % 8 = 0
  rotate_left
  · rw [if_pos (Or.inr h8n), if_neg (by decide)]
    clear HK0 HK1 HW1 HC
    have z1 : (x : Int) % 8 = 0 := by omega
    have z2 : ¬ ((n : Int) % 8 = 0) := by omega
    go_enter Try.func15, Try.ntmps15
    go_wp2
    refine bodyPost_ret (v := .tuple #[.agg #[.int .u64 (S : Nat), .slice p N cap], .int .i64 13]) ?_ rfl ⟨_, rfl, ?_, ?_⟩
    · rw [results_cell_tmp rfl]
      go_simp
    · refine (HP.out.below ?_).mono (fun g hg => Or.inl hg)
      (repeat' (first | exact Below.refl _ _ | refine Below.setCell ?_ (by simp) _ | refine Below.alloc ?_ (by simp) _))
    · (repeat' (first | exact Below.refl _ _ | refine Below.setCell ?_ (by simp) _ | refine Below.alloc ?_ (by simp) _))
  rw [if_neg (by omega)]
  have z1 : (x : Int) % 8 = 0 := by omega
  have z2 : (n : Int) % 8 = 0 := by omega
  by_cases hSx : S < x
  · rw [if_pos (Or.inl hSx), if_neg (by decide)]
    clear HK0 HK1 HW1 HC
    have z3 : (S : Int) < x := by omega
    go_enter Try.func15, Try.ntmps15
    go_wp2
    refine bodyPost_ret (v := .tuple #[.agg #[.int .u64 (S : Nat), .slice p N cap], .int .i64 12]) ?_ rfl ⟨_, rfl, ?_, ?_⟩
    · rw [results_cell_tmp rfl]
      go_simp
    · refine (HP.out.below ?_).mono (fun g hg => Or.inl hg)
      (repeat' (first | exact Below.refl _ _ | refine Below.setCell ?_ (by simp) _ | refine Below.alloc ?_ (by simp) _))
    · (repeat' (first | exact Below.refl _ _ | refine Below.setCell ?_ (by simp) _ | refine Below.alloc ?_ (by simp) _))
  have z3 : ¬ ((S : Int) < x) := by omega
  obtain ⟨r, hr⟩ : ∃ r, x + r = S := ⟨S - x, by omega⟩
  have hr2 : (S : Int) - x = (r : Int) := by omega
  by_cases hSn : r < n
  · rw [if_pos (Or.inr (by omega)), if_neg (by decide)]
    clear HK0 HK1 HW1 HC
    have HR0 := Hid.mk hr
    clear hr
    have z4 : (r : Int) < n := by omega
    go_enter Try.func15, Try.ntmps15
    go_wp2
    refine bodyPost_ret (v := .tuple #[.agg #[.int .u64 (S : Nat), .slice p N cap], .int .i64 12]) ?_ rfl ⟨_, rfl, ?_, ?_⟩
    · rw [results_cell_tmp rfl]
      go_simp
    · refine (HP.out.below ?_).mono (fun g hg => Or.inl hg)
      (repeat' (first | exact Below.refl _ _ | refine Below.setCell ?_ (by simp) _ | refine Below.alloc ?_ (by simp) _))
    · (repeat' (first | exact Below.refl _ _ | refine Below.setCell ?_ (by simp) _ | refine Below.alloc ?_ (by simp) _))
  have z4 : ¬ ((r : Int) < n) := by omega
  rw [if_neg (by omega), if_pos rfl]
  have HG : Hid (∀ wq, Below w1.heap.size w1 wq → wq.heap[w.heap.size]? = some (.cells #[.int .u64 (S : Nat), .slice p N cap] 32) ∧ wq.heap[w.heap.size + 1]? = some (.cells #[.int .u64 0, .slice none 0 0] 32)) := fun wq hq => ⟨(hq.block _ (by omega)).trans HK0.out, (hq.block _ (by omega)).trans HK1.out⟩
  obtain ⟨xe, hxe⟩ : ∃ xe, x + n = xe := ⟨_, rfl⟩
  have hxe2 : (x : Int) + n = (xe : Int) := by omega
  have hxb : xe ≤ 4294967296 := by omega
  have HXE := Hid.mk hxe
  have HST : Hid (WrRel w1 w1 (.slice none 0 0) (SC x n L 0)) := by
    show WrRel w1 w1 (.slice none 0 0) (SC x n L 0)
    rw [SC_zero]; exact ⟨OwnP.nil _ _, Below.refl _ _⟩
  have HR0 := Hid.mk hr
  clear HK0 HK1 hxe hr
  go_enter Try.func15, Try.ntmps15
  go_wp2
  go_loopw [8, 9] (fun s8 s9 wr => ∃ (i : Nat) (v8 : Value), i ≤ N ∧ s9 = .int .i64 i ∧ v8 = s8 ∧ WrRel w1 wr v8 (SC x n L i)) (fun _ s9 _ => N - (intOf s9).toNat)
  case atStart => exact ⟨0, _, by omega, rfl, rfl, by rw [← HW1.out]; exact HST.out⟩
  case round =>
    clear HST HW1
    obtain ⟨i, v8, hi, rfl, rfl, hR⟩ := hrel
    have hla := SC_len x n L i
    rw [HN.out] at hla
    have hsz : w1.heap.size ≤ wr.heap.size := hR.bel.size
    by_cases hlt : i < N
    · have HSU := Hid.mk (SC_succ x n L (i := i) (by rw [HN.out]; exact hlt))
      obtain ⟨g, rfl, hg, q1, q2⟩ := HC.out i hlt
      have HF : Hid (∀ wq, Below w1.heap.size w1 wq → wq.cell? ⟨w.heap.size, 1, none⟩ = some (.slice (some ⟨g, 0, none⟩) N cap) ∧ wq.cell? ⟨g, i * 2, none⟩ = some (.int .u64 (L[i]!.1 : Nat)) ∧ wq.cell? ⟨g, i * 2 + 1, none⟩ = some (.int .u64 (L[i]!.2 : Nat))) := fun wq hq => ⟨(row2_facts (HG.out wq hq).1).2.1, ((below_tr HB.out hq).cell (p := ⟨g, _, none⟩) hg).trans q1, ((below_tr HB.out hq).cell (p := ⟨g, _, none⟩) hg).trans q2⟩
      clear q1 q2
      generalize SC x n L i = acc at *
      generalize L[i]! = pr at *
      obtain ⟨y, z⟩ := pr
      have hr1 : WrRel w1 wr v8 acc := hR
      obtain ⟨c1, q1, q2⟩ := HF.out wr hr1.bel
      simp only at q1 q2
      have HR := Hid.mk hr1
      have HO := Hid.mk hr1.own
      clear hR hr1
      have fin : ∀ wq v (acc2 : WL), WrRel w1 wq v acc2 → stC x n acc (y, z) = acc2 → WrRel w1 wq v (SC x n L (i + 1)) := fun wq v acc2 h1 h2 => by
        rw [HSU.out.trans h2]; exact h1
      have FIN := Hid.mk fin
      clear fin
      by_cases hyx : y < x
      · have hyx2 : (y : Int) < x := by omega
        go_wp2_with (first
          | (at_builtin; refine wpList_appP _ rfl _ _ rfl w1.heap.size _ acc rfl (HO.out.alloc _) y z wr.heap.size rfl (heap_alloc_new _ _) (by first | omega | (simp; omega)) (by simp; omega) ?_; intro g3 cap3 w6 hown6 hgr6)
          | go_in)
        have e2 := FIN.out w6 _ (acc ++ [(y, z)]) (HR.out.push hgr6 hown6) (if_pos (Or.inl hyx))
        exact ⟨⟨i + 1, _, by omega, by go_num, rfl, e2⟩, by simp [intOf]; omega⟩
      · have hyx2 : ¬ ((y : Int) < x) := by omega
        by_cases hye : xe ≤ y
        · have hye2 : (xe : Int) ≤ y := by omega
          go_wp2_with (first
            | (at_builtin; refine wpList_appP _ rfl _ _ rfl w1.heap.size _ acc rfl (HO.out.alloc _) y z wr.heap.size rfl (heap_alloc_new _ _) (by first | omega | (simp; omega)) (by simp; omega) ?_; intro g3 cap3 w6 hown6 hgr6)
            | go_in)
          have e2 := FIN.out w6 _ (acc ++ [(y, z)]) (HR.out.push hgr6 hown6) (if_pos (Or.inr (by rw [HXE.out]; exact hye)))
          exact ⟨⟨i + 1, _, by omega, by go_num, rfl, e2⟩, by simp [intOf]; omega⟩
        · have hye2 : ¬ ((xe : Int) ≤ y) := by omega
          go_wp2
          have e2 := FIN.out wr _ acc HR.out (if_neg (by rw [HXE.out]; omega))
          exact ⟨⟨i + 1, _, by omega, by go_num, rfl, e2⟩, by simp [intOf]; omega⟩
    · obtain rfl : i = N := by omega
      generalize hsc : SC x n L i = acc at *
      have HSC := Hid.mk hsc
      have HR := Hid.mk hR
      clear hsc
      obtain ⟨c0, c1, f0, f1⟩ := row2_facts (HG.out wr hR.bel).1
      obtain ⟨d0, d1, g0, g1⟩ := row2_facts (HG.out wr hR.bel).2
      obtain ⟨pp, cc, rfl, -⟩ := hR.own.psl.form
      clear hR
      go_wp2
      refine bodyPost_ret (v := .tuple #[.agg #[.int .u64 (S : Nat), .slice pp acc.length cc], .int .i64 0]) ?_ rfl ⟨_, rfl, ?_, ?_⟩
      · rw [results_cell_tmp rfl]
        go_simp
      · exact wr_end HR.out hs1 HSC.out
      · exact ((((below_tr HB.out HR.out.bel).setCell (by simp) _).setCell (by simp) _).setCell (by simp) _)
end Go.Proofs.Ytiedlkhbbnjkbaa
