/- The words that came in, opened. -/
import Derived.Test.YtndjhedoandinaaGreatDoorMemW
import Derived.OpenShut
import Derived.ChangeSame
import Derived.Deep.Strs
import Derived.WideShapes
namespace Go.Proofs.YtndjhedoandinaaGreatDoor
open Go.RowKit Go.Maps Go.WideShapes Go.Deep

def intAt (W : World) (a : Addr) : Int := match W.cell? a with | some (.int _ z) => z | _ => 0

theorem cellsOp : Tryz.prog.cellsOf 81 = 2 := by kernel_rfl
theorem opFields : ∃ f0 f1 : Field, Tryz.prog.underlying 81 = some (.struct #[f0, f1]) ∧ f0.offset = 0 ∧ f1.offset = 1 ∧ f0.type = 26 ∧ f1.type = 26 :=
  ⟨_, _, Tryz.underlying81, rfl, rfl, rfl, rfl⟩
theorem cellsK : Tryz.prog.cellsOf 26 = 1 := by kernel_rfl

theorem add_none (a : Addr) (k : Nat) (W : World) (v : Value) (h : W.cell? (a.add k) = some v) (hs : a.spot = none) : W.cell? ⟨a.block, a.off + k, none⟩ = some v := by
  have : a.add k = ⟨a.block, a.off + k, none⟩ := by
    unfold Addr.add
    split
    · rename_i hk; obtain ⟨b, o, s⟩ := a; simp_all
    · simp
  rwa [this] at h

set_option maxRecDepth 100000 in
theorem open_steps {H : Type} {enc : TypeId × Value → H} {W : World} {base : Nat} {v : Value} {d : DataW H} {p : List MemPlace} (hok : Value.okWide Tryz.prog W .any base 22 v)
    (h : DataW.Trod enc Tryz.prog W 0 (fun _ => true) true 22 v d p) : ∃ ad n cap A V, v = .slice ad n cap ∧ n ≤ maxLen ∧ StepsAt W ad n A V := by
  obtain ⟨ad, n, cap, rfl⟩ := okWide_slice Tryz.underlying22 hok
  obtain ⟨fuel, h⟩ := h
  rcases open_slice Tryz.underlying22 h with ⟨h0, _⟩ | ⟨a, len, cap', m, nn, D, Pl, hcs, hb, hl, hm, hmm, hx, hel⟩
  · simp [Value.cells] at h0
    obtain ⟨rfl, rfl, rfl⟩ := h0
    exact ⟨none, 0, 0, fun _ => 0, fun _ => 0, rfl, Nat.zero_le _, ⟨fun i hi => absurd hi (by omega), fun _ => by decide, fun _ => by decide⟩⟩
  · simp [Value.cells] at hcs
    obtain ⟨rfl, rfl, rfl⟩ := hcs
    simp only [if_true] at hmm
    subst hmm
    simp only [cellsOp] at hel
    obtain ⟨f0, f1, hu, o0, o1, t0, t1⟩ := opFields
    have each : ∀ i, i < n → ∃ (x y : Nat), a.spot = none ∧ a.block < W.heap.size ∧ W.cell? ⟨a.block, a.off + i * 2, none⟩ = some (.int .u64 x) ∧ W.cell? ⟨a.block, a.off + i * 2 + 1, none⟩ = some (.int .u64 y) ∧ x < 18446744073709551616 ∧ y < 18446744073709551616 := by
      intro i hi
      obtain ⟨cs, hc, ht⟩ := hel i (by omega)
      obtain ⟨y0, y1, q, _, hlen, h0, h1⟩ := ChangeShapes.trod_struct2 hu ht
      rw [o0, t0, cellsK] at h0
      rw [o1, t1, cellsK] at h1
      obtain ⟨z1, e1, _, w1⟩ := DataW.trod_int Tryz.underlying26 h0
      obtain ⟨z2, e2, _, w2⟩ := DataW.trod_int Tryz.underlying26 h1
      have b1 := bounds_u64 w1
      have b2 := bounds_u64 w2
      obtain ⟨x, rfl⟩ := Int.eq_ofNat_of_zero_le b1.1
      obtain ⟨y, rfl⟩ := Int.eq_ofNat_of_zero_le b2.1
      rw [cellsOp] at hlen
      obtain ⟨c0, c1, rfl⟩ : ∃ c0 c1, cs = [c0, c1] := by
        match cs, hlen with
        | [c0, c1], _ => exact ⟨c0, c1, rfl⟩
      simp at e1 e2
      subst e1 e2
      have gall := (World.cells?_some hc).2.2
      have g0 := gall 0 (by omega)
      have g1 := gall 1 (by omega)
      simp at g0 g1
      have hsp : a.spot = none := by
        obtain ⟨cs0, hc0, _⟩ := hel 0 (by omega)
        have hl0 := (World.cells?_some hc0).2.1
        have k0 := (World.cells?_some hc0).2.2 0 (by omega)
        have e0 : (a.add (0 * 2)).add 0 = a := by simp [Addr.add]
        rw [e0] at k0
        have k1 : cs0[0]? ≠ none := by
          rw [Ne, List.getElem?_eq_none_iff]; omega
        cases hs : a.spot with
        | none => rfl
        | some u =>
          exfalso
          apply k1
          rw [← k0]
          unfold World.cell?
          rw [hs]
          split <;> simp
      have hadd : ∀ k, (a.add (i * 2)).add k = ⟨a.block, a.off + i * 2 + k, none⟩ := fun k => by
        obtain ⟨b, o, s⟩ := a
        simp at hsp
        subst hsp
        unfold Addr.add
        by_cases e1 : i * 2 = 0
        · by_cases e2 : k = 0
          · simp [e1, e2]
          · simp [e1, e2]
        · by_cases e2 : k = 0
          · simp [e1, e2]
          · simp [e1, e2]
      rw [hadd] at g0 g1
      exact ⟨x, y, hsp, World.block_lt_of_cell? W ⟨a.block, a.off + i * 2 + 1, none⟩ g1, g0, g1, by omega, by omega⟩
    refine ⟨some a, n, _, fun i => if i < n then (intAt W ⟨a.block, a.off + i * 2, none⟩).toNat else 0, fun i => if i < n then (intAt W ⟨a.block, a.off + i * 2 + 1, none⟩).toNat else 0, rfl, by omega, ⟨fun i hi => ?_, fun i => ?_, fun i => ?_⟩⟩
    · obtain ⟨x, y, hs, hlt, q1, q2, _, _⟩ := each i hi
      refine ⟨a.block, a.off, by obtain ⟨b, o, s⟩ := a; simp at hs; subst hs; rfl, hlt, ?_, ?_⟩
      · rw [q1, if_pos hi]; simp [intAt, q1]
      · rw [q2, if_pos hi]; simp [intAt, q2]
    · by_cases hi : i < n
      · obtain ⟨x, y, hs, hlt, q1, q2, hx1, hy1⟩ := each i hi
        rw [if_pos hi]; simp [intAt, q1]; exact hx1
      · rw [if_neg hi]; decide
    · by_cases hi : i < n
      · obtain ⟨x, y, hs, hlt, q1, q2, hx1, hy1⟩ := each i hi
        rw [if_pos hi]; simp [intAt, q2]; exact hy1
      · rw [if_neg hi]; decide
end Go.Proofs.YtndjhedoandinaaGreatDoor
