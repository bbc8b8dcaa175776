/- What every tied row of layer 8 needs: the field's cells out of the row's list; entries, and slices of them, as arguments. -/
import Derived.Test.YtndjhedoandinaaGreatDoorCards
import Derived.Test.YtndjhedoandinaaGreatDoorTie
import Derived.Test.YtndjhedoandinaaGreatDoorTrP
import Derived.ProofKit
import Derived.OpenShut
import Derived.SizedLaws
import Derived.Lay
import Derived.SevenTiedAt
import Derived.ChangeSame
import Derived.Deep.Strs
import Derived.WideShapes
import Derived.Deep.DeepHandedRow
import Derived.Deep.DeepWitnessRowRef
import Derived.Lib.LaidIn
import Derived.Lib.LaidTab
import Derived.Lib.LaidU8
import Derived.Lib.SmallJoins
namespace Go.Proofs.YtndjhedoandinaaGreatDoor.TR
open Go.RowKit Go.Lib Go.ChangeShapes Go.WideShapes Go.ChangeAt Go.Joins Go.Deep

/-- A variable that reads as two ints holds them, cell by cell. -/
theorem pair_of_reads {W : World} {n : String} {g : Nat} {a b : Int} (hg : Tryz.prog.globalNamed n = some g) (ht : (Tryz.prog.globals[g]?).map (·.type) = some 169)
    (h : VarReads Tryz.prog W n (.agg [.lit (.int .i64 a), .lit (.int .i64 b)])) : W.cell? ⟨g, 0, none⟩ = some (.int .i64 a) ∧ W.cell? ⟨g, 1, none⟩ = some (.int .i64 b) := by
  obtain ⟨g', t, cs, fuel, p, hg', hty, hvar, hd⟩ := h
  obtain rfl := Option.some.inj (hg.symm.trans hg')
  obtain rfl := Option.some.inj (ht.symm.trans hty)
  obtain ⟨y0, y1, m, hx, hl, h0, h1⟩ := trod_struct2 Tryz.underlying169 hd
  have hc : Tryz.prog.cellsOf 169 = 2 := by kernel_rfl
  have hc1 : Tryz.prog.cellsOf 3 = 1 := by kernel_rfl
  obtain ⟨c0, c1, rfl⟩ := array2 (cs := cs) (by simpa [hc] using hl)
  simp [hc1] at h0 h1
  obtain ⟨z0, e0, x0, _⟩ := DataW.trod_int Tryz.underlying3 h0
  obtain ⟨z1, e1, x1, _⟩ := DataW.trod_int Tryz.underlying3 h1
  subst x0 x1
  simp at hx e0 e1
  obtain ⟨⟨rfl, rfl⟩, _⟩ := hx
  rw [World.var?_cell hg hvar 0, World.var?_cell hg hvar 1]
  simp [e0, e1]

theorem list4 {α : Type} {l : List α} (h : l.length = 4) : ∃ c0 c1 c2 c3, l = [c0, c1, c2, c3] := by
  match l, h with
  | [c0, c1, c2, c3], _ => exact ⟨c0, c1, c2, c3, rfl⟩

section
variable {H : Type} {enc : TypeId × Value → H} {w : World} {base : Nat} {spare : Nat → Bool} {held : Bool}
set_option maxRecDepth 100000 in
/-- A mark's cells; its level is an int's. -/
theorem entry_cells {fuel : Nat} {cs : List Value} {x : DataW H × List MemPlace} (hf : DataW.trod enc Tryz.prog w base spare held fuel 112 cs = some x) : ∃ e : En, cs = e.cs ∧ e.ok := by
  have hc : Tryz.prog.cellsOf 112 = 4 := by kernel_rfl
  have ci : Tryz.prog.cellsOf 3 = 1 := by kernel_rfl
  have cu : Tryz.prog.cellsOf 26 = 1 := by kernel_rfl
  obtain ⟨xs, n, _, _, hsz, hlen, hx⟩ := DataW.trod_struct Tryz.underlying112 hf
  obtain ⟨c0, c1, c2, c3, rfl⟩ := list4 (hsz.trans hc)
  have hsome : ∀ i, i < 4 → ∃ y, xs[i]? = some y := fun i hi => ⟨xs[i]'(by rw [hlen]; exact hi), by simp⟩
  obtain ⟨y0, q0⟩ := hsome 0 (by omega)
  obtain ⟨y1, q1⟩ := hsome 1 (by omega)
  obtain ⟨y2, q2⟩ := hsome 2 (by omega)
  obtain ⟨y3, q3⟩ := hsome 3 (by omega)
  have h0 := (hx 0 _ rfl).trans q0
  have h1 := (hx 1 _ rfl).trans q1
  have h2 := (hx 2 _ rfl).trans q2
  have h3 := (hx 3 _ rfl).trans q3
  obtain ⟨z0, e0, _, _⟩ := DataW.trod_int Tryz.underlying3 h0
  obtain ⟨z1, e1, _, wo⟩ := DataW.trod_int Tryz.underlying26 h1
  obtain ⟨z2, e2, _, _⟩ := DataW.trod_int Tryz.underlying3 h2
  obtain ⟨z3, e3, _, wt⟩ := DataW.trod_int Tryz.underlying26 h3
  simp [ci, cu] at e0 e1 e2 e3
  subst e0 e1 e2 e3
  obtain ⟨z1, rfl⟩ := Int.eq_ofNat_of_zero_le (bounds_u64 wo).1
  obtain ⟨z3, rfl⟩ := Int.eq_ofNat_of_zero_le (bounds_u64 wt).1
  exact ⟨⟨z0, z1, z2, z3⟩, rfl, by have := (bounds_u64 wo).2; show z1 < _; omega, by have := (bounds_u64 wt).2; show z3 < _; omega⟩

set_option maxRecDepth 100000 in
theorem open_entry {r : Reach} {b0 : Nat} {v : Value} {d : DataW H} {p : List MemPlace} (hv : Value.okWide Tryz.prog w r b0 112 v) (h : DataW.Trod enc Tryz.prog w base spare held 112 v d p) :
    ∃ e : En, v = e.v ∧ e.ok := by
  obtain ⟨cs, rfl, hsz⟩ := okWide_struct Tryz.underlying112 hv
  obtain ⟨fuel, hf⟩ := h
  obtain ⟨e, he, hok⟩ := entry_cells hf
  refine ⟨e, ?_, hok⟩
  have h2 : cs.toList = e.cs := he
  show Value.agg cs = Value.agg e.cs.toArray
  rw [← h2]
end

set_option maxRecDepth 100000 in
/-- A slice that comes in, element by element. -/
theorem open_elems {H : Type} {enc : TypeId × Value → H} {W : World} {base : Nat} {v : Value} {d : DataW H} {p : List MemPlace} {tS tE : TypeId} {c : Nat} (hu : Tryz.prog.underlying tS = some (.slice tE)) (hc : Tryz.prog.cellsOf tE = c) (hc0 : 0 < c) (hok : Value.okWide Tryz.prog W .any base tS v)
    (h : DataW.Trod enc Tryz.prog W 0 (fun _ => true) true tS v d p) :
    ∃ ad n cap, v = .slice ad n cap ∧ n ≤ maxLen ∧ ∀ i, i < n → ∃ g o cs fuel x, ad = some ⟨g, o, none⟩ ∧ g < W.heap.size ∧ (∀ j u, cs[j]? = some u → W.cell? ⟨g, o + i * c + j, none⟩ = some u) ∧ DataW.trod enc Tryz.prog W 0 (fun _ => true) true fuel tE cs = some x := by
  obtain ⟨ad, n, cap, rfl⟩ := okWide_slice hu hok
  obtain ⟨fuel, h⟩ := h
  rcases open_slice hu h with ⟨h0, _⟩ | ⟨a, len, cap', m, nn, D, Pl, hcs, hb, hl, hm, hmm, hx, hel⟩
  · simp [Value.cells] at h0
    obtain ⟨rfl, rfl, rfl⟩ := h0
    exact ⟨none, 0, 0, rfl, Nat.zero_le _, fun i hi => absurd hi (by omega)⟩
  · simp [Value.cells] at hcs
    obtain ⟨rfl, rfl, rfl⟩ := hcs
    simp only [if_true] at hmm
    subst hmm
    simp only [hc] at hel
    refine ⟨some a, n, _, rfl, by omega, fun i hi => ?_⟩
    obtain ⟨cs, hcc, ht⟩ := hel i (by omega)
    have hall := World.cells?_some hcc
    have hsp : a.spot = none := by
      obtain ⟨cs0, hc0', _⟩ := hel 0 (by omega)
      have hl0 := (World.cells?_some hc0').2.1
      have k0 := (World.cells?_some hc0').2.2 0 (by omega)
      have e0 : (a.add (0 * c)).add 0 = a := by simp [Addr.add]
      rw [e0] at k0
      have k1 : cs0[0]? ≠ none := by
        rw [Ne, List.getElem?_eq_none_iff]; omega
      cases hs : a.spot with
      | none => rfl
      | some u =>
        exfalso
        apply k1
        rw [← k0]
        unfold World.cell?
        rw [hs]
        split <;> simp
    have hadd : ∀ k, (a.add (i * c)).add k = ⟨a.block, a.off + i * c + k, none⟩ := fun k => by
      obtain ⟨b, o, s⟩ := a
      simp at hsp
      subst hsp
      unfold Addr.add
      by_cases e1 : i * c = 0
      · by_cases e2 : k = 0
        · simp [e1, e2]
        · simp [e1, e2]
      · by_cases e2 : k = 0
        · simp [e1, e2]
        · simp [e1, e2]
    have hcell : ∀ j u, cs[j]? = some u → W.cell? ⟨a.block, a.off + i * c + j, none⟩ = some u := fun j u hu => by
      have hj : j < cs.length := (List.getElem?_eq_some_iff.1 hu).1
      have := hall.2.2 j (by have := hall.2.1; omega)
      rw [hadd, hu] at this
      exact this
    have hlen : 0 < cs.length := by have := hall.2.1; omega
    refine ⟨a.block, a.off, cs, _, _, by obtain ⟨b, o, s⟩ := a; simp at hsp; subst hsp; rfl, ?_, hcell, ht⟩
    exact World.block_lt_of_cell? W ⟨a.block, a.off + i * c + 0, none⟩ (hcell 0 cs[0] (List.getElem?_eq_getElem hlen))

set_option maxRecDepth 100000 in
theorem open_entries {H : Type} {enc : TypeId × Value → H} {W : World} {base : Nat} {v : Value} {d : DataW H} {p : List MemPlace} (hok : Value.okWide Tryz.prog W .any base 103 v)
    (h : DataW.Trod enc Tryz.prog W 0 (fun _ => true) true 103 v d p) : ∃ ad cap, ∃ l : List En, v = .slice ad l.length cap ∧ l.length ≤ maxLen ∧ RdA W ad l ∧ ∀ e ∈ l, e.ok := by
  obtain ⟨ad, n, cap, rfl, hn, hel⟩ := open_elems (c := 4) Tryz.underlying103 (by kernel_rfl) (by decide) hok h
  have each : ∀ i, ∃ e : En, e.ok ∧ (i < n → ∃ g o, ad = some ⟨g, o, none⟩ ∧ g < W.heap.size ∧ ∀ j u, e.cs[j]? = some u → W.cell? ⟨g, o + i * 4 + j, none⟩ = some u) := fun i => by
    by_cases hi : i < n
    · obtain ⟨g, o, cs, fuel, x, e1, hg, hc, ht⟩ := hel i hi
      obtain ⟨e, rfl, he⟩ := entry_cells ht
      exact ⟨e, he, fun _ => ⟨g, o, e1, hg, hc⟩⟩
    · exact ⟨e0, e0_ok, fun h => absurd h hi⟩
  obtain ⟨f, hf⟩ : ∃ f : Nat → En, ∀ i, (f i).ok ∧ (i < n → ∃ g o, ad = some ⟨g, o, none⟩ ∧ g < W.heap.size ∧ ∀ j u, (f i).cs[j]? = some u → W.cell? ⟨g, o + i * 4 + j, none⟩ = some u) := ⟨fun i => (each i).choose, fun i => (each i).choose_spec⟩
  have hl : ((List.range n).map f).length = n := by simp
  refine ⟨ad, cap, (List.range n).map f, by rw [hl], by rw [hl]; exact hn, fun i hi => ?_, fun e he => ?_⟩
  · have hi' : i < n := by rw [← hl]; exact hi
    have e1 : (gE ((List.range n).map f) i) = f i := by rw [gE_pos _ i hi]; simp
    rw [e1]
    exact (hf i).2 hi'
  · obtain ⟨i, _, rfl⟩ := List.mem_map.1 he
    exact (hf i).1
end Go.Proofs.YtndjhedoandinaaGreatDoor.TR
