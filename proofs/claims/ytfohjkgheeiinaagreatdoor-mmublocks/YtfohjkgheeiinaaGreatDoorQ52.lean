/- Texts: TrFrame StepOpen MmFrame -/
import Derived.Test.YtfohjkgheeiinaaGreatDoorCards
import Derived.Test.YtfohjkgheeiinaaGreatDoorTie
import Derived.ProofKit
import Derived.SizedLaws
import Derived.Lay
import Derived.SevenTiedAt
import Derived.ChangeSame
import Derived.Deep.Strs
import Derived.WideShapes
import Derived.Deep.DeepHandedRow
import Derived.Deep.DeepWitnessRowRef
import Derived.Lib.LaidIn
import Derived.Lib.LaidTab
import Derived.Lib.LaidU8
import Derived.Lib.SmallJoins
import Derived.Test.YtfohjkgheeiinaaGreatDoorQ50
set_option maxHeartbeats 16000000
set_option maxRecDepth 100000
namespace Go.Proofs.YtfohjkgheeiinaaGreatDoor.TR
open Go.RowKit Go.Lib Go.ChangeShapes Go.WideShapes Go.ChangeAt Go.Joins Go.Deep
theorem pair_of_reads {W : World} {n : String} {g : Nat} {a b : Int} (hg : Tryz.prog.globalNamed n = some g) (ht : (Tryz.prog.globals[g]?).map (·.type) = some 162)
  (h : VarReads Tryz.prog W n (.agg [.lit (.int .i64 a), .lit (.int .i64 b)])) : W.cell? ⟨g, 0, none⟩ = some (.int .i64 a) ∧ W.cell? ⟨g, 1, none⟩ = some (.int .i64 b) := by
 obtain ⟨g', t, cs, fuel, p, hg', hty, hvar, hd⟩ := h
 obtain rfl := Option.some.inj (hg.symm.trans hg')
 obtain rfl := Option.some.inj (ht.symm.trans hty)
 obtain ⟨y0, y1, m, hx, hl, h0, h1⟩ := trod_struct2 Tryz.underlying162 hd
 have hc : Tryz.prog.cellsOf 162 = 2 := by kernel_rfl
 have hc1 : Tryz.prog.cellsOf 3 = 1 := by kernel_rfl
 obtain ⟨c0, c1, rfl⟩ := array2 (cs := cs) (by simpa [hc] using hl)
 simp [hc1] at h0 h1
 obtain ⟨z0, e0, x0, _⟩ := DataW.trod_int Tryz.underlying3 h0
 obtain ⟨z1, e1, x1, _⟩ := DataW.trod_int Tryz.underlying3 h1
 subst x0 x1
 simp at hx e0 e1
 obtain ⟨⟨rfl, rfl⟩, _⟩ := hx
 rw [World.var?_cell hg hvar 0, World.var?_cell hg hvar 1]
 simp [e0, e1]
section
variable {H : Type} {enc : TypeId × Value → H} {w : World} {base : Nat} {spare : Nat → Bool} {held : Bool}
end
theorem open_elems {H : Type} {enc : TypeId × Value → H} {W : World} {base : Nat} {v : Value} {d : DataW H} {p : List MemPlace} {tS tE : TypeId} {c : Nat} (hu : Tryz.prog.underlying tS = some (.slice tE)) (hc : Tryz.prog.cellsOf tE = c) (hc0 : 0 < c) (hok : Value.okWide Tryz.prog W .any base tS v)
  (h : DataW.Trod enc Tryz.prog W 0 (fun _ => true) true tS v d p) :
  ∃ ad n cap, v = .slice ad n cap ∧ n ≤ maxLen ∧ ∀ i, i < n → ∃ g o cs fuel x, ad = some ⟨g, o, none⟩ ∧ g < W.heap.size ∧ (∀ j u, cs[j]? = some u → W.cell? ⟨g, o + i * c + j, none⟩ = some u) ∧ DataW.trod enc Tryz.prog W 0 (fun _ => true) true fuel tE cs = some x := by
 obtain ⟨ad, n, cap, rfl⟩ := okWide_slice hu hok
 obtain ⟨fuel, h⟩ := h
 rcases open_slice hu h with ⟨h0, _⟩ | ⟨a, len, cap', m, nn, D, Pl, hcs, hb, hl, hm, hmm, hx, hel⟩
 ·simp [Value.cells] at h0
  obtain ⟨rfl, rfl, rfl⟩ := h0
  exact ⟨none, 0, 0, rfl, Nat.zero_le _, fun i hi => absurd hi (by omega)⟩
 ·simp [Value.cells] at hcs
  obtain ⟨rfl, rfl, rfl⟩ := hcs
  simp only [if_true] at hmm
  subst hmm
  simp only [hc] at hel
  refine ⟨some a, n, _, rfl, by omega, fun i hi => ?_⟩
  obtain ⟨cs, hcc, ht⟩ := hel i (by omega)
  have hall := World.cells?_some hcc
  have hsp : a.spot = none := by
   obtain ⟨cs0, hc0', _⟩ := hel 0 (by omega)
   have hl0 := (World.cells?_some hc0').2.1
   have k0 := (World.cells?_some hc0').2.2 0 (by omega)
   have e0 : (a.add (0 * c)).add 0 = a := by simp [Addr.add]
   rw [e0] at k0
   have k1 : cs0[0]? ≠ none := by
    rw [Ne, List.getElem?_eq_none_iff]; omega
   cases hs : a.spot with
   | none => rfl
   | some u =>
    exfalso
    apply k1
    rw [← k0]
    unfold World.cell?
    rw [hs]
    split <;> simp
  have hadd : ∀ k, (a.add (i * c)).add k = ⟨a.block, a.off + i * c + k, none⟩ := fun k => by
   obtain ⟨b, o, s⟩ := a
   simp at hsp
   subst hsp
   unfold Addr.add
   by_cases e1 : i * c = 0
   ·by_cases e2 : k = 0
    ·simp [e1, e2]
    ·simp [e1, e2]
   ·by_cases e2 : k = 0
    ·simp [e1, e2]
    ·simp [e1, e2]
  have hcell : ∀ j u, cs[j]? = some u → W.cell? ⟨a.block, a.off + i * c + j, none⟩ = some u := fun j u hu => by
   have hj : j < cs.length := (List.getElem?_eq_some_iff.1 hu).1
   have := hall.2.2 j (by have := hall.2.1; omega)
   rw [hadd, hu] at this
   exact this
  have hlen : 0 < cs.length := by have := hall.2.1; omega
  refine ⟨a.block, a.off, cs, _, _, by obtain ⟨b, o, s⟩ := a; simp at hsp; subst hsp; rfl, ?_, hcell, ht⟩
  exact World.block_lt_of_cell? W ⟨a.block, a.off + i * c + 0, none⟩ (hcell 0 cs[0] (List.getElem?_eq_getElem hlen))
end Go.Proofs.YtfohjkgheeiinaaGreatDoor.TR
namespace Go.Proofs.YtfohjkgheeiinaaGreatDoor
open Go.RowKit Go.Maps Go.WideShapes Go.Deep
def intAt (W : World) (a : Addr) : Int := match W.cell? a with | some (.int _ z) => z | _ => 0
theorem cellsOp : Tryz.prog.cellsOf 60 = 2 := by kernel_rfl
theorem opFields : ∃ f0 f1 : Field, Tryz.prog.underlying 60 = some (.struct #[f0, f1]) ∧ f0.offset = 0 ∧ f1.offset = 1 ∧ f0.type = 26 ∧ f1.type = 26 :=
 ⟨_, _, Tryz.underlying60, rfl, rfl, rfl, rfl⟩
theorem cellsK : Tryz.prog.cellsOf 26 = 1 := by kernel_rfl
theorem open_steps {H : Type} {enc : TypeId × Value → H} {W : World} {base : Nat} {v : Value} {d : DataW H} {p : List MemPlace} (hok : Value.okWide Tryz.prog W .any base 22 v)
  (h : DataW.Trod enc Tryz.prog W 0 (fun _ => true) true 22 v d p) : ∃ ad n cap A V, v = .slice ad n cap ∧ n ≤ maxLen ∧ StepsAt W ad n A V := by
 obtain ⟨ad, n, cap, rfl⟩ := okWide_slice Tryz.underlying22 hok
 obtain ⟨fuel, h⟩ := h
 rcases open_slice Tryz.underlying22 h with ⟨h0, _⟩ | ⟨a, len, cap', m, nn, D, Pl, hcs, hb, hl, hm, hmm, hx, hel⟩
 ·simp [Value.cells] at h0
  obtain ⟨rfl, rfl, rfl⟩ := h0
  exact ⟨none, 0, 0, fun _ => 0, fun _ => 0, rfl, Nat.zero_le _, ⟨fun i hi => absurd hi (by omega), fun _ => by decide, fun _ => by decide⟩⟩
 ·simp [Value.cells] at hcs
  obtain ⟨rfl, rfl, rfl⟩ := hcs
  simp only [if_true] at hmm
  subst hmm
  simp only [cellsOp] at hel
  obtain ⟨f0, f1, hu, o0, o1, t0, t1⟩ := opFields
  have each : ∀ i, i < n → ∃ (x y : Nat), a.spot = none ∧ a.block < W.heap.size ∧ W.cell? ⟨a.block, a.off + i * 2, none⟩ = some (.int .u64 x) ∧ W.cell? ⟨a.block, a.off + i * 2 + 1, none⟩ = some (.int .u64 y) ∧ x < 18446744073709551616 ∧ y < 18446744073709551616 := by
   intro i hi
   obtain ⟨cs, hc, ht⟩ := hel i (by omega)
   obtain ⟨y0, y1, q, _, hlen, h0, h1⟩ := ChangeShapes.trod_struct2 hu ht
   rw [o0, t0, cellsK] at h0
   rw [o1, t1, cellsK] at h1
   obtain ⟨z1, e1, _, w1⟩ := DataW.trod_int Tryz.underlying26 h0
   obtain ⟨z2, e2, _, w2⟩ := DataW.trod_int Tryz.underlying26 h1
   have b1 := bounds_u64 w1
   have b2 := bounds_u64 w2
   obtain ⟨x, rfl⟩ := Int.eq_ofNat_of_zero_le b1.1
   obtain ⟨y, rfl⟩ := Int.eq_ofNat_of_zero_le b2.1
   rw [cellsOp] at hlen
   obtain ⟨c0, c1, rfl⟩ : ∃ c0 c1, cs = [c0, c1] := by
    match cs, hlen with
    | [c0, c1], _ => exact ⟨c0, c1, rfl⟩
   simp at e1 e2
   subst e1 e2
   have gall := (World.cells?_some hc).2.2
   have g0 := gall 0 (by omega)
   have g1 := gall 1 (by omega)
   simp at g0 g1
   have hsp : a.spot = none := by
    obtain ⟨cs0, hc0, _⟩ := hel 0 (by omega)
    have hl0 := (World.cells?_some hc0).2.1
    have k0 := (World.cells?_some hc0).2.2 0 (by omega)
    have e0 : (a.add (0 * 2)).add 0 = a := by simp [Addr.add]
    rw [e0] at k0
    have k1 : cs0[0]? ≠ none := by
     rw [Ne, List.getElem?_eq_none_iff]; omega
    cases hs : a.spot with
    | none => rfl
    | some u =>
     exfalso
     apply k1
     rw [← k0]
     unfold World.cell?
     rw [hs]
     split <;> simp
   have hadd : ∀ k, (a.add (i * 2)).add k = ⟨a.block, a.off + i * 2 + k, none⟩ := fun k => by
    obtain ⟨b, o, s⟩ := a
    simp at hsp
    subst hsp
    unfold Addr.add
    by_cases e1 : i * 2 = 0
    ·by_cases e2 : k = 0
     ·simp [e1, e2]
     ·simp [e1, e2]
    ·by_cases e2 : k = 0
     ·simp [e1, e2]
     ·simp [e1, e2]
   rw [hadd] at g0 g1
   exact ⟨x, y, hsp, World.block_lt_of_cell? W ⟨a.block, a.off + i * 2 + 1, none⟩ g1, g0, g1, by omega, by omega⟩
  refine ⟨some a, n, _, fun i => if i < n then (intAt W ⟨a.block, a.off + i * 2, none⟩).toNat else 0, fun i => if i < n then (intAt W ⟨a.block, a.off + i * 2 + 1, none⟩).toNat else 0, rfl, by omega, ⟨fun i hi => ?_, fun i => ?_, fun i => ?_⟩⟩
  ·obtain ⟨x, y, hs, hlt, q1, q2, _, _⟩ := each i hi
   refine ⟨a.block, a.off, by obtain ⟨b, o, s⟩ := a; simp at hs; subst hs; rfl, hlt, ?_, ?_⟩
   ·rw [q1, if_pos hi]; simp [intAt, q1]
   ·rw [q2, if_pos hi]; simp [intAt, q2]
  ·by_cases hi : i < n
   ·obtain ⟨x, y, hs, hlt, q1, q2, hx1, hy1⟩ := each i hi
    rw [if_pos hi]; simp [intAt, q1]; exact hx1
   ·rw [if_neg hi]; decide
  ·by_cases hi : i < n
   ·obtain ⟨x, y, hs, hlt, q1, q2, hx1, hy1⟩ := each i hi
    rw [if_pos hi]; simp [intAt, q2]; exact hy1
   ·rw [if_neg hi]; decide
end Go.Proofs.YtfohjkgheeiinaaGreatDoor
namespace Go.Proofs.YtfohjkgheeiinaaGreatDoor.MM
open Go.RowKit Go.Lib Go.ChangeShapes Go.WideShapes Go.ChangeAt Go.Joins Go.Deep
theorem list3 {α : Type} {l : List α} (h : l.length = 3) : ∃ c0 c1 c2, l = [c0, c1, c2] := by
 match l, h with
 | [c0, c1, c2], _ => exact ⟨c0, c1, c2, rfl⟩
section
variable {H : Type} {enc : TypeId × Value → H} {w : World} {base : Nat} {spare : Nat → Bool} {held : Bool}
theorem hint_cells {fuel : Nat} {cs : List Value} {x : DataW H × List MemPlace} (hf : DataW.trod enc Tryz.prog w base spare held fuel 38 cs = some x) : ∃ h : Hn, cs = [.bool h.fill, .bool h.led, .bool h.keep] := by
 have hc : Tryz.prog.cellsOf 38 = 3 := by kernel_rfl
 have cb : Tryz.prog.cellsOf 4 = 1 := by kernel_rfl
 obtain ⟨xs, n, _, _, hsz, hlen, hx⟩ := DataW.trod_struct Tryz.underlying38 hf
 obtain ⟨c0, c1, c2, rfl⟩ := list3 (hsz.trans hc)
 have hsome : ∀ i, i < 3 → ∃ y, xs[i]? = some y := fun i hi => ⟨xs[i]'(by rw [hlen]; exact hi), by simp⟩
 obtain ⟨y0, q0⟩ := hsome 0 (by omega)
 obtain ⟨y1, q1⟩ := hsome 1 (by omega)
 obtain ⟨y2, q2⟩ := hsome 2 (by omega)
 have h0 := (hx 0 _ rfl).trans q0
 have h1 := (hx 1 _ rfl).trans q1
 have h2 := (hx 2 _ rfl).trans q2
 obtain ⟨u, e0, _⟩ := DataW.trod_bool Tryz.underlying4 h0
 obtain ⟨r, e1, _⟩ := DataW.trod_bool Tryz.underlying4 h1
 obtain ⟨k, e2, _⟩ := DataW.trod_bool Tryz.underlying4 h2
 simp [cb] at e0 e1 e2
 subst e0 e1 e2
 exact ⟨⟨u, r, k⟩, rfl⟩
theorem open_hint {r : Reach} {b0 : Nat} {v : Value} {d : DataW H} {p : List MemPlace} (hv : Value.okWide Tryz.prog w r b0 38 v) (h : DataW.Trod enc Tryz.prog w base spare held 38 v d p) : ∃ h : Hn, v = h.v := by
 obtain ⟨cs, rfl, hsz⟩ := okWide_struct Tryz.underlying38 hv
 obtain ⟨fuel, hf⟩ := h
 obtain ⟨h, he⟩ := hint_cells hf
 refine ⟨h, ?_⟩
 have h2 : cs.toList = [.bool h.fill, .bool h.led, .bool h.keep] := he
 show Value.agg cs = _
 rw [show cs = cs.toList.toArray from rfl, h2]
end
end Go.Proofs.YtfohjkgheeiinaaGreatDoor.MM
