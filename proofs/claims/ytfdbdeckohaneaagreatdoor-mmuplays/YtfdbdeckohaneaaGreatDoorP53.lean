/- MmuPlays (P9.1 to P9.4): for all words, every bound and every list of steps the law returns true: behind each step, whichever it is, the machine tells what the document's tells, and remembers what it remembers. No condition beyond the row's own. -/
import Derived.Test.YtfdbdeckohaneaaGreatDoorCards
import Derived.Test.YtfdbdeckohaneaaGreatDoorTie
import Derived.ProofKit
import Derived.SizedLaws
import Derived.Lay
import Derived.SevenTiedAt
import Derived.ChangeSame
import Derived.Deep.Strs
import Derived.WideShapes
import Derived.Deep.DeepHandedRow
import Derived.Deep.DeepWitnessRowRef
import Derived.Lib.LaidIn
import Derived.Lib.LaidTab
import Derived.Lib.LaidU8
import Derived.Lib.SmallJoins
import Derived.Test.YtfdbdeckohaneaaGreatDoorP51
import Derived.Test.YtfdbdeckohaneaaGreatDoorP52
set_option maxHeartbeats 16000000
set_option maxRecDepth 100000
namespace Go.Proofs.YtfdbdeckohaneaaGreatDoor.TR
open Go.RowKit Go.Lib Go.ChangeShapes Go.WideShapes Go.ChangeAt Go.Joins Go.Deep
theorem qdo {W : World} {n : String} {g : Nat} {a b : Int} (hg : Tryz.prog.globalNamed n = some g) (ht : (Tryz.prog.globals[g]?).map (·.type) = some 156)
  (h : VarReads Tryz.prog W n (.agg [.lit (.int .i64 a), .lit (.int .i64 b)])) : W.cell? ⟨g, 0, none⟩ = some (.int .i64 a) ∧ W.cell? ⟨g, 1, none⟩ = some (.int .i64 b) := by
 obtain ⟨g', t, cs, fuel, p, hg', hty, hvar, hd⟩ := h
 obtain rfl := Option.some.inj (hg.symm.trans hg')
 obtain rfl := Option.some.inj (ht.symm.trans hty)
 obtain ⟨y0, y1, m, hx, hl, h0, h1⟩ := trod_struct2 Tryz.underlying156 hd
 have hc : Tryz.prog.cellsOf 156 = 2 := by kernel_rfl
 have hc1 : Tryz.prog.cellsOf 3 = 1 := by kernel_rfl
 obtain ⟨c0, c1, rfl⟩ := array2 (cs := cs) (by simpa [hc] using hl)
 simp [hc1] at h0 h1
 obtain ⟨z0, e0, x0, _⟩ := DataW.trod_int Tryz.underlying3 h0
 obtain ⟨z1, e1, x1, _⟩ := DataW.trod_int Tryz.underlying3 h1
 subst x0 x1
 simp at hx e0 e1
 obtain ⟨⟨rfl, rfl⟩, _⟩ := hx
 rw [World.var?_cell hg hvar 0, World.var?_cell hg hvar 1]
 simp [e0, e1]
section
variable {H : Type} {enc : TypeId × Value → H} {w : World} {base : Nat} {spare : Nat → Bool} {held : Bool}
end
theorem zP53x01 {Z : Prop} (z : Z := by
 rw [e0] at k0
 have k1 : cs0[0]? ≠ none := by
  rw [Ne, List.getElem?_eq_none_iff]; omega
 cases hs : a.spot with
 | none => rfl
 | some u =>
  exfalso
  apply k1
  rw [← k0]
  unfold World.cell?
  rw [hs]
  split <;> simp) : Z := z
theorem open_elems {H : Type} {enc : TypeId × Value → H} {W : World} {base : Nat} {v : Value} {d : DataW H} {p : List MemPlace} {tS tE : TypeId} {c : Nat} (hu : Tryz.prog.underlying tS = some (.slice tE)) (hc : Tryz.prog.cellsOf tE = c) (hc0 : 0 < c) (hok : Value.okWide Tryz.prog W .any base tS v)
  (h : DataW.Trod enc Tryz.prog W 0 (fun _ => true) true tS v d p) :
  ∃ ad n cap, v = .slice ad n cap ∧ n ≤ maxLen ∧ ∀ i, i < n → ∃ g o cs fuel x, ad = some ⟨g, o, none⟩ ∧ g < W.heap.size ∧ (∀ j u, cs[j]? = some u → W.cell? ⟨g, o + i * c + j, none⟩ = some u) ∧ DataW.trod enc Tryz.prog W 0 (fun _ => true) true fuel tE cs = some x := by
 obtain ⟨ad, n, cap, rfl⟩ := okWide_slice hu hok
 obtain ⟨fuel, h⟩ := h
 rcases open_slice hu h with ⟨h0, _⟩ | ⟨a, len, cap', m, nn, D, Pl, hcs, hb, hl, hm, hmm, hx, hel⟩
 ·simp [Value.cells] at h0
  obtain ⟨rfl, rfl, rfl⟩ := h0
  exact ⟨none, 0, 0, rfl, Nat.zero_le _, fun i hi => absurd hi (by omega)⟩
 ·simp [Value.cells] at hcs
  obtain ⟨rfl, rfl, rfl⟩ := hcs
  simp only [if_true] at hmm
  subst hmm
  simp only [hc] at hel
  refine ⟨some a, n, _, rfl, by omega, fun i hi => ?_⟩
  obtain ⟨cs, hcc, ht⟩ := hel i (by omega)
  have hall := World.cells?_some hcc
  have hsp : a.spot = none := by
   obtain ⟨cs0, hc0', _⟩ := hel 0 (by omega)
   have hl0 := (World.cells?_some hc0').2.1
   have k0 := (World.cells?_some hc0').2.2 0 (by omega)
   have e0 : (a.add (0 * c)).add 0 = a := by simp [Addr.add]
   exact zP53x01
  have hadd : ∀ k, (a.add (i * c)).add k = ⟨a.block, a.off + i * c + k, none⟩ := fun k => by
   obtain ⟨b, o, s⟩ := a
   simp at hsp
   subst hsp
   unfold Addr.add
   by_cases e1 : i * c = 0
   ·by_cases e2 : k = 0
    ·simp [e1, e2]
    ·simp [e1, e2]
   ·by_cases e2 : k = 0
    ·simp [e1, e2]
    ·simp [e1, e2]
  have hcell : ∀ j u, cs[j]? = some u → W.cell? ⟨a.block, a.off + i * c + j, none⟩ = some u := fun j u hu => by
   have hj : j < cs.length := (List.getElem?_eq_some_iff.1 hu).1
   have := hall.2.2 j (by have := hall.2.1; omega)
   rw [hadd, hu] at this
   exact this
  have hlen : 0 < cs.length := by have := hall.2.1; omega
  refine ⟨a.block, a.off, cs, _, _, by obtain ⟨b, o, s⟩ := a; simp at hsp; subst hsp; rfl, ?_, hcell, ht⟩
  exact World.block_lt_of_cell? W ⟨a.block, a.off + i * c + 0, none⟩ (hcell 0 cs[0] (List.getElem?_eq_getElem hlen))
end Go.Proofs.YtfdbdeckohaneaaGreatDoor.TR
namespace Go.Proofs.YtfdbdeckohaneaaGreatDoor
open Go.RowKit Go.Maps Go.WideShapes Go.Deep
def intAt (W : World) (a : Addr) : Int := match W.cell? a with | some (.int _ z) => z | _ => 0
theorem cellsOp : Tryz.prog.cellsOf 46 = 2 := by kernel_rfl
theorem opFields : ∃ f0 f1 : Field, Tryz.prog.underlying 46 = some (.struct #[f0, f1]) ∧ f0.offset = 0 ∧ f1.offset = 1 ∧ f0.type = 26 ∧ f1.type = 26 :=
 ⟨_, _, Tryz.underlying46, rfl, rfl, rfl, rfl⟩
theorem cellsK : Tryz.prog.cellsOf 26 = 1 := by kernel_rfl
theorem open_steps {H : Type} {enc : TypeId × Value → H} {W : World} {base : Nat} {v : Value} {d : DataW H} {p : List MemPlace} (hok : Value.okWide Tryz.prog W .any base 22 v)
  (h : DataW.Trod enc Tryz.prog W 0 (fun _ => true) true 22 v d p) : ∃ ad n cap A V, v = .slice ad n cap ∧ n ≤ maxLen ∧ StepsAt W ad n A V := by
 obtain ⟨ad, n, cap, rfl⟩ := okWide_slice Tryz.underlying22 hok
 obtain ⟨fuel, h⟩ := h
 rcases open_slice Tryz.underlying22 h with ⟨h0, _⟩ | ⟨a, len, cap', m, nn, D, Pl, hcs, hb, hl, hm, hmm, hx, hel⟩
 ·simp [Value.cells] at h0
  obtain ⟨rfl, rfl, rfl⟩ := h0
  exact ⟨none, 0, 0, fun _ => 0, fun _ => 0, rfl, Nat.zero_le _, ⟨fun i hi => absurd hi (by omega), fun _ => by decide, fun _ => by decide⟩⟩
 ·simp [Value.cells] at hcs
  obtain ⟨rfl, rfl, rfl⟩ := hcs
  simp only [if_true] at hmm
  subst hmm
  simp only [cellsOp] at hel
  obtain ⟨f0, f1, hu, o0, o1, t0, t1⟩ := opFields
  have each : ∀ i, i < n → ∃ (x y : Nat), a.spot = none ∧ a.block < W.heap.size ∧ W.cell? ⟨a.block, a.off + i * 2, none⟩ = some (.int .u64 x) ∧ W.cell? ⟨a.block, a.off + i * 2 + 1, none⟩ = some (.int .u64 y) ∧ x < 18446744073709551616 ∧ y < 18446744073709551616 := by
   intro i hi
   obtain ⟨cs, hc, ht⟩ := hel i (by omega)
   obtain ⟨y0, y1, q, _, hlen, h0, h1⟩ := ChangeShapes.trod_struct2 hu ht
   rw [o0, t0, cellsK] at h0
   rw [o1, t1, cellsK] at h1
   obtain ⟨z1, e1, _, w1⟩ := DataW.trod_int Tryz.underlying26 h0
   obtain ⟨z2, e2, _, w2⟩ := DataW.trod_int Tryz.underlying26 h1
   have b1 := bounds_u64 w1
   have b2 := bounds_u64 w2
   obtain ⟨x, rfl⟩ := Int.eq_ofNat_of_zero_le b1.1
   obtain ⟨y, rfl⟩ := Int.eq_ofNat_of_zero_le b2.1
   rw [cellsOp] at hlen
   obtain ⟨c0, c1, rfl⟩ : ∃ c0 c1, cs = [c0, c1] := by
    match cs, hlen with
    | [c0, c1], _ => exact ⟨c0, c1, rfl⟩
   simp at e1 e2
   subst e1 e2
   have gall := (World.cells?_some hc).2.2
   have g0 := gall 0 (by omega)
   have g1 := gall 1 (by omega)
   simp at g0 g1
   have hsp : a.spot = none := by
    obtain ⟨cs0, hc0, _⟩ := hel 0 (by omega)
    have hl0 := (World.cells?_some hc0).2.1
    have k0 := (World.cells?_some hc0).2.2 0 (by omega)
    have e0 : (a.add (0 * 2)).add 0 = a := by simp [Addr.add]
    exact TR.zP53x01
   have hadd : ∀ k, (a.add (i * 2)).add k = ⟨a.block, a.off + i * 2 + k, none⟩ := fun k => by
    obtain ⟨b, o, s⟩ := a
    simp at hsp
    subst hsp
    unfold Addr.add
    by_cases e1 : i * 2 = 0
    ·by_cases e2 : k = 0
     ·simp [e1, e2]
     ·simp [e1, e2]
    ·by_cases e2 : k = 0
     ·simp [e1, e2]
     ·simp [e1, e2]
   rw [hadd] at g0 g1
   exact ⟨x, y, hsp, World.block_lt_of_cell? W ⟨a.block, a.off + i * 2 + 1, none⟩ g1, g0, g1, by omega, by omega⟩
  refine ⟨some a, n, _, fun i => if i < n then (intAt W ⟨a.block, a.off + i * 2, none⟩).toNat else 0, fun i => if i < n then (intAt W ⟨a.block, a.off + i * 2 + 1, none⟩).toNat else 0, rfl, by omega, ⟨fun i hi => ?_, fun i => ?_, fun i => ?_⟩⟩
  ·obtain ⟨x, y, hs, hlt, q1, q2, _, _⟩ := each i hi
   refine ⟨a.block, a.off, by obtain ⟨b, o, s⟩ := a; simp at hs; subst hs; rfl, hlt, ?_, ?_⟩
   ·rw [q1, if_pos hi]; simp [intAt, q1]
   ·rw [q2, if_pos hi]; simp [intAt, q2]
  ·by_cases hi : i < n
   ·obtain ⟨x, y, hs, hlt, q1, q2, hx1, hy1⟩ := each i hi
    rw [if_pos hi]; simp [intAt, q1]; exact hx1
   ·rw [if_neg hi]; decide
  ·by_cases hi : i < n
   ·obtain ⟨x, y, hs, hlt, q1, q2, hx1, hy1⟩ := each i hi
    rw [if_pos hi]; simp [intAt, q2]; exact hy1
   ·rw [if_neg hi]; decide
end Go.Proofs.YtfdbdeckohaneaaGreatDoor
namespace Go.Proofs.YtfdbdeckohaneaaGreatDoor.MM
open Go.RowKit Go.Lib Go.ChangeShapes Go.WideShapes Go.ChangeAt Go.Joins Go.Deep
structure Mo where
 kd : Int
 so : Int
 nn : Int
 va : Nat
 wd : Nat
 h : Hn
def Mo.cs (q : Mo) : List Value := [.int .i64 q.kd, .int .i64 q.so, .int .i64 q.nn, .int .u64 (q.va : Int), .int .u64 (q.wd : Int), .bool q.h.fill, .bool q.h.led, .bool q.h.keep]
def Mo.ok (q : Mo) : Prop := q.va < 18446744073709551616 ∧ q.wd < 18446744073709551616
def mo0 : Mo := ⟨0, 0, 0, 0, 0, ⟨false, false, false⟩⟩
def gM (l : List Mo) (i : Nat) : Mo := l.getD i mo0
theorem gM_pos (l : List Mo) (i : Nat) (h : i < l.length) : gM l i = l[i] := by
 unfold gM
 rw [List.getD_eq_getElem?_getD, List.getElem?_eq_getElem h]; rfl
def MoRd (w : World) (ad : Option Addr) (l : List Mo) : Prop :=
 ∀ i, i < l.length → ∃ g o, ad = some ⟨g, o, none⟩ ∧ g < w.heap.size ∧ ∀ j u, (gM l i).cs[j]? = some u → w.cell? ⟨g, o + i * 8 + j, none⟩ = some u
theorem list3 {α : Type} {l : List α} (h : l.length = 3) : ∃ c0 c1 c2, l = [c0, c1, c2] := by
 match l, h with
 | [c0, c1, c2], _ => exact ⟨c0, c1, c2, rfl⟩
theorem list8 {α : Type} {l : List α} (h : l.length = 8) : ∃ c0 c1 c2 c3 c4 c5 c6 c7, l = [c0, c1, c2, c3, c4, c5, c6, c7] := by
 match l, h with
 | [c0, c1, c2, c3, c4, c5, c6, c7], _ => exact ⟨c0, c1, c2, c3, c4, c5, c6, c7, rfl⟩
section
variable {H : Type} {enc : TypeId × Value → H} {w : World} {base : Nat} {spare : Nat → Bool} {held : Bool}
theorem hint_cells {fuel : Nat} {cs : List Value} {x : DataW H × List MemPlace} (hf : DataW.trod enc Tryz.prog w base spare held fuel 38 cs = some x) : ∃ h : Hn, cs = [.bool h.fill, .bool h.led, .bool h.keep] := by
 have hc : Tryz.prog.cellsOf 38 = 3 := by kernel_rfl
 have cb : Tryz.prog.cellsOf 4 = 1 := by kernel_rfl
 obtain ⟨xs, n, _, _, hsz, hlen, hx⟩ := DataW.trod_struct Tryz.underlying38 hf
 obtain ⟨c0, c1, c2, rfl⟩ := list3 (hsz.trans hc)
 have hsome : ∀ i, i < 3 → ∃ y, xs[i]? = some y := fun i hi => ⟨xs[i]'(by rw [hlen]; exact hi), by simp⟩
 obtain ⟨y0, q0⟩ := hsome 0 (by omega)
 obtain ⟨y1, q1⟩ := hsome 1 (by omega)
 obtain ⟨y2, q2⟩ := hsome 2 (by omega)
 have h0 := (hx 0 _ rfl).trans q0
 have h1 := (hx 1 _ rfl).trans q1
 have h2 := (hx 2 _ rfl).trans q2
 obtain ⟨u, e0, _⟩ := DataW.trod_bool Tryz.underlying4 h0
 obtain ⟨r, e1, _⟩ := DataW.trod_bool Tryz.underlying4 h1
 obtain ⟨k, e2, _⟩ := DataW.trod_bool Tryz.underlying4 h2
 simp [cb] at e0 e1 e2
 subst e0 e1 e2
 exact ⟨⟨u, r, k⟩, rfl⟩
theorem op_cells {fuel : Nat} {cs : List Value} {x : DataW H × List MemPlace} (hf : DataW.trod enc Tryz.prog w base spare held fuel 40 cs = some x) : ∃ q : Mo, cs = q.cs ∧ q.ok := by
 have hc : Tryz.prog.cellsOf 40 = 8 := by kernel_rfl
 have ci : Tryz.prog.cellsOf 3 = 1 := by kernel_rfl
 have cu : Tryz.prog.cellsOf 26 = 1 := by kernel_rfl
 have ch : Tryz.prog.cellsOf 38 = 3 := by kernel_rfl
 obtain ⟨xs, n, _, _, hsz, hlen, hx⟩ := DataW.trod_struct Tryz.underlying40 hf
 obtain ⟨c0, c1, c2, c3, c4, c5, c6, c7, rfl⟩ := list8 (hsz.trans hc)
 have hsome : ∀ i, i < 6 → ∃ y, xs[i]? = some y := fun i hi => ⟨xs[i]'(by rw [hlen]; exact hi), by simp⟩
 obtain ⟨y0, q0⟩ := hsome 0 (by omega)
 obtain ⟨y1, q1⟩ := hsome 1 (by omega)
 obtain ⟨y2, q2⟩ := hsome 2 (by omega)
 obtain ⟨y3, q3⟩ := hsome 3 (by omega)
 obtain ⟨y4, q4⟩ := hsome 4 (by omega)
 obtain ⟨y5, q5⟩ := hsome 5 (by omega)
 have h0 := (hx 0 _ rfl).trans q0
 have h1 := (hx 1 _ rfl).trans q1
 have h2 := (hx 2 _ rfl).trans q2
 have h3 := (hx 3 _ rfl).trans q3
 have h4 := (hx 4 _ rfl).trans q4
 have h5 := (hx 5 _ rfl).trans q5
 obtain ⟨z0, e0, _, _⟩ := DataW.trod_int Tryz.underlying3 h0
 obtain ⟨z1, e1, _, _⟩ := DataW.trod_int Tryz.underlying3 h1
 obtain ⟨z2, e2, _, _⟩ := DataW.trod_int Tryz.underlying3 h2
 obtain ⟨z3, e3, _, w3⟩ := DataW.trod_int Tryz.underlying26 h3
 obtain ⟨z4, e4, _, w4⟩ := DataW.trod_int Tryz.underlying26 h4
 obtain ⟨h, e5⟩ := hint_cells h5
 simp [ci, cu, ch] at e0 e1 e2 e3 e4 e5
 obtain ⟨rfl, rfl, rfl⟩ := e5
 subst e0 e1 e2 e3 e4
 obtain ⟨z3, rfl⟩ := Int.eq_ofNat_of_zero_le (bounds_u64 w3).1
 obtain ⟨z4, rfl⟩ := Int.eq_ofNat_of_zero_le (bounds_u64 w4).1
 exact ⟨⟨z0, z1, z2, z3, z4, h⟩, rfl, by have := (bounds_u64 w3).2; show z3 < _; omega, by have := (bounds_u64 w4).2; show z4 < _; omega⟩
end
theorem open_mops {H : Type} {enc : TypeId × Value → H} {W : World} {base : Nat} {v : Value} {d : DataW H} {p : List MemPlace} (hok : Value.okWide Tryz.prog W .any base 23 v)
  (h : DataW.Trod enc Tryz.prog W 0 (fun _ => true) true 23 v d p) : ∃ ad cap, ∃ l : List Mo, v = .slice ad l.length cap ∧ l.length ≤ maxLen ∧ MoRd W ad l ∧ ∀ q ∈ l, q.ok := by
 obtain ⟨ad, n, cap, rfl, hn, hel⟩ := TR.open_elems (c := 8) Tryz.underlying23 (by kernel_rfl) (by decide) hok h
 have each : ∀ i, ∃ q : Mo, q.ok ∧ (i < n → ∃ g o, ad = some ⟨g, o, none⟩ ∧ g < W.heap.size ∧ ∀ j u, q.cs[j]? = some u → W.cell? ⟨g, o + i * 8 + j, none⟩ = some u) := fun i => by
  by_cases hi : i < n
  ·obtain ⟨g, o, cs, fuel, x, e1, hg, hc, ht⟩ := hel i hi
   obtain ⟨q, rfl, he⟩ := op_cells ht
   exact ⟨q, he, fun _ => ⟨g, o, e1, hg, hc⟩⟩
  ·exact ⟨mo0, ⟨by decide, by decide⟩, fun h => absurd h hi⟩
 obtain ⟨f, hf⟩ : ∃ f : Nat → Mo, ∀ i, (f i).ok ∧ (i < n → ∃ g o, ad = some ⟨g, o, none⟩ ∧ g < W.heap.size ∧ ∀ j u, (f i).cs[j]? = some u → W.cell? ⟨g, o + i * 8 + j, none⟩ = some u) := ⟨fun i => (each i).choose, fun i => (each i).choose_spec⟩
 have hl : ((List.range n).map f).length = n := by simp
 refine ⟨ad, cap, (List.range n).map f, by rw [hl], by rw [hl]; exact hn, fun i hi => ?_, fun e he => ?_⟩
 ·have hi' : i < n := by rw [← hl]; exact hi
  have e1 : gM ((List.range n).map f) i = f i := by rw [gM_pos _ i hi]; simp
  rw [e1]
  exact (hf i).2 hi'
 ·obtain ⟨i, _, rfl⟩ := List.mem_map.1 he
  exact (hf i).1
set_option linter.unusedVariables false
open Go.RowKit Go.Maps
theorem rdA2 {W : World} {K t va vq : Nat} {hf hl hk : Bool} (gP : W.heap[K]? = some (.cells #[.int .u64 va, .bool hf, .bool hl, .bool hk, .int .u64 vq, .bool hf, .bool hl, .bool hk] t (0, 0))) : PL.RdA W (some ⟨K, 0, none⟩) ([⟨va, ⟨hf, hl, hk⟩⟩, ⟨vq, ⟨hf, hl, hk⟩⟩] : List Pl) := fun i hi => by
 have hcell : ∀ j u, (#[.int .u64 va, .bool hf, .bool hl, .bool hk, .int .u64 vq, .bool hf, .bool hl, .bool hk] : Array Value)[j]? = some u → W.cell? ⟨K, j, none⟩ = some u := fun j u hu => by rw [cell_of_row _ _ _ _ _ _ gP]; exact hu
 have h2 : i = 0 ∨ i = 1 := by simp at hi; omega
 refine ⟨K, 0, rfl, qag gP, fun j u hu => ?_⟩
 have hj : j < 4 := (List.getElem?_eq_some_iff.1 hu).1
 refine hcell _ u ?_
 rcases h2 with rfl | rfl
 ·match j, hj, hu with
  | 0, _, hu => exact hu
  | 1, _, hu => exact hu
  | 2, _, hu => exact hu
  | 3, _, hu => exact hu
 ·match j, hj, hu with
  | 0, _, hu => exact hu
  | 1, _, hu => exact hu
  | 2, _, hu => exact hu
  | 3, _, hu => exact hu
section
variable {w0 w : World} {l F : List Nat} {x a n m S : Nat} {most : Int} {s t : St} {d : Yd}
theorem Duo.setP (h : Duo w0 w l F x a n S most s m t d) {P : List Pl} {K : Nat} (c : Nat) (hK : K ∈ l) (hF : K ∉ F) (hr : PL.RdA w (some ⟨K, 0, none⟩) P) (hlt : K < w.heap.size) : Duo w0 w l F x a n S most s m { t with P := P } { d with aP := some ⟨K, 0, none⟩, cP := c } := by
 obtain ⟨h0, hF', q, h2, h3⟩ := h
 have h4 := h2.mono (B' := fun g => g ∈ K :: q) (fun i hi => List.mem_cons_of_mem _ hi)
 refine ⟨h0, hF', K :: q, ⟨h4.ref, h4.len, h4.psl, h4.re, h4.rk, hr, h4.be, h4.bk, fun a e => ?_, h4.on, h4.rg⟩, fun g hg => ?_⟩
 ·cases e; exact ⟨List.mem_cons_self, hlt⟩
 ·rcases List.mem_cons.1 hg with rfl | hg
  ·exact ⟨hK, hF⟩
  ·exact h3 g hg
theorem Duo.nilP (h : Duo w0 w l F x a n S most s m t d) (c : Nat) : Duo w0 w l F x a n S most s m { t with P := [] } { d with aP := none, cP := c } := by
 obtain ⟨h0, hF, q, h2, h3⟩ := h
 exact ⟨h0, hF, q, ⟨h2.ref, h2.len, h2.psl, h2.re, h2.rk, PL.RdA.nil _ _, h2.be, h2.bk, fun a e => (by cases e), h2.on, h2.rg⟩, h3⟩
end
section
variable {w0 w : World} {l F : List Nat} {x a n m S : Nat} {most : Int} {s : St} {d : Yd}
theorem vst_11y (h : Duo w0 w l F x a n S most s m s d) (hm : m + 1 < 1000000) (hn : n < 1000000) (so nn : Int) (va wd : Nat) (hf hl hk : Bool) (hva : va < 18446744073709551616) (hwd : wd < 18446744073709551616) (vq : Nat) (hvq : vq = (va + wd) % 18446744073709551616) (hN : ¬ nn < 0) :
  Calls Tryz.prog 6 #[.pointer (some ⟨x, 0, none⟩), .agg (d.cs S most s), .agg #[.int .i64 11, .int .i64 so, .int .i64 nn, .int .u64 va, .int .u64 wd, .bool hf, .bool hl, .bool hk]] w (VO w0 w l F x a (n + 1) S most (m + 1)) := by
 have H0 := Hid.mk h
 have HFM := Hid.mk h.one.fm
 have HWF := Hid.mk h.one.wfm
 have HV1 := Hid.mk h.vm1
 have hwr : IntKind.u64.wrap ((va : Int) + (wd : Int)) = ((vq : Nat) : Int) := by rw [hvq]; show IntKind.u64.wrap _ = _; simp only [IntKind.wrap, IntKind.bits, IntKind.signed]; simp
 have HVQ := Hid.mk (show vq < 18446744073709551616 by omega)
 clear hvq
 clear h
 obtain ⟨vm, L, aE, cE, aK, cK, aP, cP, on', R', I'⟩ := d
 (try dsimp only at HV1)
 have HW := Hid.mk (H0.out.own4 (.cells #[.int .u64 S, vm, .int .i64 most, .slice aE s.E.length cE, .slice aK s.K.length cK, .bool on', .int .u64 R', .int .i64 I', .slice aP s.P.length cP] 34) (.cells #[.int .i64 11, .int .i64 so, .int .i64 nn, .int .u64 va, .int .u64 wd, .bool hf, .bool hl, .bool hk] 40) (.cells #[.int .u64 0, .slice none 0 0, .int .i64 0, .slice none 0 0, .slice none 0 0, .bool false, .int .u64 0, .int .i64 0, .slice none 0 0] 34) (.cells #[.bool hf, .bool hl, .bool hk] 64))
 obtain ⟨W, hW, gY, gO, gR, gH, hB, hsz⟩ := hp4 w (.cells #[.int .u64 S, vm, .int .i64 most, .slice aE s.E.length cE, .slice aK s.K.length cK, .bool on', .int .u64 R', .int .i64 I', .slice aP s.P.length cP] 34) (.cells #[.int .i64 11, .int .i64 so, .int .i64 nn, .int .u64 va, .int .u64 wd, .bool hf, .bool hl, .bool hk] 40) (.cells #[.int .u64 0, .slice none 0 0, .int .i64 0, .slice none 0 0, .slice none 0 0, .bool false, .int .u64 0, .int .i64 0, .slice none 0 0] 34) (.cells #[.bool hf, .bool hl, .bool hk] 64)
 rw [hW] at HW
 go_enter Tryz.func6, Tryz.ntmps6
 go_upto_region 2 with fail
 (try rw [hW])
 clear hW hsz
 have HB := Hid.mk hB
 clear hB
 obtain ⟨o0, o1, o2, o3, o4, o5, o6, o7⟩ := qay gO
 obtain ⟨c0, c1, c2, c3, c4, c5, c6, c7, c8⟩ := qal gY
 obtain ⟨t0, t1, t2⟩ := qan gH
 have hb1 := qac W (.cells #[.int .u64 va, .bool hf, .bool hl, .bool hk, .int .u64 vq, .bool hf, .bool hl, .bool hk] 76)
 have gP := heap_alloc_new W (.cells #[.int .u64 va, .bool hf, .bool hl, .bool hk, .int .u64 vq, .bool hf, .bool hl, .bool hk] 76)
 have hK1 : w.heap.size + 1 + 1 + 1 < W.heap.size := qag gH
 have HW1 := Hid.mk (HW.out.own (.cells #[.int .u64 va, .bool hf, .bool hl, .bool hk, .int .u64 vq, .bool hf, .bool hl, .bool hk] 76))
 go_upto_region 40 with fail
 generalize W.alloc (.cells #[.int .u64 va, .bool hf, .bool hl, .bool hk, .int .u64 vq, .bool hf, .bool hl, .bool hk] 76) = W1 at *
 obtain ⟨gY, gO, gR, gH⟩ := bl4 hb1 gY gO gR gH
 have hK2 : W.heap.size < W1.heap.size := qag gP
 clear o0 o1 o2 o3 o4 o5 o6 o7 c0 c1 c2 c3 c4 c5 c6 c7 c8 t0 t1 t2
 obtain ⟨o0, o1, o2, o3, o4, o5, o6, o7⟩ := qay gO
 obtain ⟨t0, t1, t2⟩ := qan gH
 have hb2 := qac W1 (.cells #[.int .u64 va, .bool hf, .bool hl, .bool hk, .int .u64 vq, .bool hf, .bool hl, .bool hk] 79)
 have gQ := heap_alloc_new W1 (.cells #[.int .u64 va, .bool hf, .bool hl, .bool hk, .int .u64 vq, .bool hf, .bool hl, .bool hk] 79)
 have HB2 := Hid.mk (qab (qab HB.out hb1) hb2)
 have HW2 := Hid.mk (HW1.out.own (.cells #[.int .u64 va, .bool hf, .bool hl, .bool hk, .int .u64 vq, .bool hf, .bool hl, .bool hk] 79))
 obtain ⟨gY2, gO2, gR2, gP2⟩ := bl4 hb2 gY gO gR gP
 clear HW HW1 gY gR gO gP gH hb1 hb2 HB
 generalize hKK1 : W.heap.size = K1 at *
 generalize hKK2 : W1.heap.size = K2 at *
 go_upto_region 41 with
  first
  | (refine qad rfl 32 _ _ rfl rfl w.heap.size 8 _ #[.slice (some ⟨K2, 0, none⟩) 2 2] rfl rfl rfl 34 _ gY2 (show 8 + 1 ≤ 9 by decide) info_ps (by simp [Value.oneCell']) #[.int .u64 S, vm, .int .i64 most, .slice aE s.E.length cE, .slice aK s.K.length cK, .bool on', .int .u64 R', .int .i64 I', .slice (some ⟨K2, 0, none⟩) 2 2] rfl ?_
     intro wy hry hty)
  | fail
 have HW3 := Hid.mk (HW2.out.put hty (by simp))
 have HB3 := Hid.mk (qaf HB2.out hty (Nat.le_refl _))
 obtain ⟨gR2, gO2, gP2, gQ⟩ := bt4 hty gR2 gO2 gP2 gQ
 clear o0 o1 o2 o3 o4 o5 o6 o7 t0 t1 t2 HW2 HB2 gY2 hty
 obtain ⟨-, -, o2, -⟩ := qay gO2
 go_upto_region 43 with fail
 clear o2 gO2
 obtain ⟨k0, k1, k2, k3, k4, k5, k6, k7, k8⟩ := qal hry
 clear hry
 have hdr := (Below.refl wy.heap.size wy).drew
 obtain ⟨gR2, gP2, gQ⟩ := bl3 hdr gR2 gP2 gQ
 replace HW3 := Hid.mk ((HW3.out.later hdr).lessF (F' := ([w.heap.size + 1 + 1 + 1, w.heap.size + 1 + 1, w.heap.size + 1, w.heap.size] ++ F)) (fun g hg => List.mem_cons_of_mem _ (List.mem_cons_of_mem _ hg)))
 replace HB3 := Hid.mk (qab HB3.out hdr)
 clear hdr
 obtain ⟨k0, k1, k2, k3, k4⟩ := cl5 (Below.refl _ wy).drew k0 k1 k2 k3 k4
 obtain ⟨k5, k6, k7, k8⟩ := cl4 (Below.refl _ wy).drew k5 k6 k7 k8
 refine hd9 k0 k1 k2 k3 k4 k5 k6 k7 k8 (h := fun hHeld => ?_)
 refine tk 0 253 (h := ?_)
 refine tk 1 254 (h := ?_)
 refine tk 2 255 (h := ?_)
 generalize wy.drew = Wd at *
 have HRP : Hid (PL.RdA Wd (some ⟨K1, 0, none⟩) [⟨va, ⟨hf, hl, hk⟩⟩, ⟨vq, ⟨hf, hl, hk⟩⟩]) := Hid.mk (rdA2 gP2)
 refine rd1 3 (h := fun K hK => ?_)
 go_simp
 refine (HW3.out.one.does (fun X hM => plan_few hM [⟨va, ⟨hf, hl, hk⟩⟩, ⟨vq, ⟨hf, hl, hk⟩⟩] 2 (some ⟨K1, 0, none⟩) (by simp) (Or.inr ⟨K1, 0, rfl⟩) HRP.out (fun p hp => by simp only [List.mem_cons, List.not_mem_nil, or_false] at hp; rcases hp with rfl | rfl; exact hva; exact HVQ.out))).mono ?_
 rintro e w5 ⟨rfl, h5, hk5⟩
 go_wp2_with fail
 replace k0 := hk5.cell (by simp) k0
 replace k1 := hk5.cell (by simp) k1
 replace k2 := hk5.cell (by simp) k2
 replace k3 := hk5.cell (by simp) k3
 replace k4 := hk5.cell (by simp) k4
 replace k5 := hk5.cell (by simp) k5
 replace k6 := hk5.cell (by simp) k6
 replace k7 := hk5.cell (by simp) k7
 replace k8 := hk5.cell (by simp) k8
 replace gR2 := hk5.row (by simp) gR2
 replace gQ := hk5.row (by simp) gQ
 have H5 := Hid.mk (HW3.out.acts h5 hk5)
 have HK5 := Hid.mk hk5
 clear h5 hk5 HW3
 refine hK.out _ _ ⟨k0, k1, k2, k3, k4, k5, k6, k7, k8⟩ (fun hHeldc0 => ?_)
 clear hK
 try simp only [Act.put, sq]
 refine tk 4 257 (h := ?_)
 refine tk 5 258 (h := ?_)
 refine tk 6 259 (h := ?_)
 refine rd1 7 (h := fun K hK => ?_)
 go_simp
 obtain ⟨arr, hmk⟩ := mk9 w5
 rw [hmk]
 have hbm := qac w5 (.cells arr 76)
 have HO6 := Hid.mk (H5.out.later hbm)
 have HK6 := Hid.mk (((Kp.below H0.out.one (Kp.refl l w) HB3.out).trans (HK5.out.less (fun g hg => by simp [hg]))).below H0.out.one hbm)
 obtain ⟨gR2, gQ⟩ := bl2 hbm gR2 gQ
 obtain ⟨k0, k1, k2, k3, k4⟩ := cl5 hbm k0 k1 k2 k3 k4
 obtain ⟨k5, k6, k7, k8⟩ := cl4 hbm k5 k6 k7 k8
 clear hmk hbm H5 HK5
 generalize w5.alloc (.cells arr 76) = w6 at *
 generalize w5.heap.size = KM at *
 go_simp
 refine hK.out _ _ ⟨k0, k1, k2, k3, k4, k5, k6, k7, k8⟩ (fun hHeldc1 => ?_)
 clear hK
 try simp only [Act.put, sq]
 refine rd1 8 (h := fun K hK => ?_)
 go_simp
 refine (plan_many 9 9 (some ⟨KM, 0, none⟩) (by decide)).mono ?_
 rintro e w7 ⟨rfl, e7⟩
 obtain rfl : w6 = w7 := e7
 go_wp2_with fail
 refine hK.out _ _ ⟨k0, k1, k2, k3, k4, k5, k6, k7, k8⟩ (fun hHeldc2 => ?_)
 clear hK
 try simp only [Act.put, sq]
 refine tk 9 262 (h := ?_)
 refine tk 10 263 (h := ?_)
 refine rd1 11 (h := fun K hK => ?_)
 refine qah rfl rfl 34 _ _ rfl (w.heap.size + 1 + 1) 0 _ #[.int .u64 S, vm, .int .i64 most, .slice aE s.E.length cE, .slice aK s.K.length cK, .bool on', .int .u64 R', .int .i64 I', .slice (some ⟨K2, 0, none⟩) 2 2] rfl rfl rfl 34 _ gR2 (show 0 + 9 ≤ 9 by decide) qao (qdm HV1.out) #[.int .u64 S, vm, .int .i64 most, .slice aE s.E.length cE, .slice aK s.K.length cK, .bool on', .int .u64 R', .int .i64 I', .slice (some ⟨K2, 0, none⟩) 2 2] rfl ?_
 intro wz hrz htz
 obtain ⟨k0, k1, k2, k3, k4⟩ := tc5 htz k0 k1 k2 k3 k4
 obtain ⟨k5, k6, k7, k8⟩ := tc4 htz k5 k6 k7 k8
 refine hK.out _ _ ⟨k0, k1, k2, k3, k4, k5, k6, k7, k8⟩ (fun hHeldz => ?_)
 clear hK
 try simp only [Act.put, sq]
 clear k0 k1 k2 k3 k4 k5 k6 k7 k8
 refine tk 12 7 (h := ?_)
 refine wpAnyH_done (by kernel_rfl) ?_ _
 refine NoPanic.normal ?_
 go_wp2_with fail
 refine bodyPost_ret (TR.qax (p := 6) (u := 7) rfl _ _ (w.heap.size + 1 + 1) 34 _ _ _ rfl hrz Tryz.underlying34 rfl qao) rfl ?_
 have hKF : K2 ∉ ([w.heap.size + 1 + 1 + 1, w.heap.size + 1 + 1, w.heap.size + 1, w.heap.size] ++ F) := fun hc => by
  rcases List.mem_append.1 hc with hc | hc
  ·simp at hc; omega
  ·have := H0.out.one.ltl (H0.out.fr hc); omega
 exact H0.out.fin3 (l1 := [K2, K1]) HK6.out (HO6.out.setP (P := [⟨va, ⟨hf, hl, hk⟩⟩, ⟨vq, ⟨hf, hl, hk⟩⟩]) 2 (by simp) hKF (rdA2 gQ) (qag gQ)) htz rfl
theorem vst_11n (h : Duo w0 w l F x a n S most s m s d) (hm : m + 1 < 1000000) (hn : n < 1000000) (so nn : Int) (va wd : Nat) (hf hl hk : Bool) (hva : va < 18446744073709551616) (hwd : wd < 18446744073709551616) (vq : Nat) (hvq : vq = (va + wd) % 18446744073709551616) (hN : nn < 0) :
  Calls Tryz.prog 6 #[.pointer (some ⟨x, 0, none⟩), .agg (d.cs S most s), .agg #[.int .i64 11, .int .i64 so, .int .i64 nn, .int .u64 va, .int .u64 wd, .bool hf, .bool hl, .bool hk]] w (VO w0 w l F x a (n + 1) S most (m + 1)) := by
 have H0 := Hid.mk h
 have HFM := Hid.mk h.one.fm
 have HWF := Hid.mk h.one.wfm
 have HV1 := Hid.mk h.vm1
 have hwr : IntKind.u64.wrap ((va : Int) + (wd : Int)) = ((vq : Nat) : Int) := by rw [hvq]; show IntKind.u64.wrap _ = _; simp only [IntKind.wrap, IntKind.bits, IntKind.signed]; simp
 have HVQ := Hid.mk (show vq < 18446744073709551616 by omega)
 clear hvq
 clear h
 obtain ⟨vm, L, aE, cE, aK, cK, aP, cP, on', R', I'⟩ := d
 (try dsimp only at HV1)
 have HW := Hid.mk (H0.out.own4 (.cells #[.int .u64 S, vm, .int .i64 most, .slice aE s.E.length cE, .slice aK s.K.length cK, .bool on', .int .u64 R', .int .i64 I', .slice aP s.P.length cP] 34) (.cells #[.int .i64 11, .int .i64 so, .int .i64 nn, .int .u64 va, .int .u64 wd, .bool hf, .bool hl, .bool hk] 40) (.cells #[.int .u64 0, .slice none 0 0, .int .i64 0, .slice none 0 0, .slice none 0 0, .bool false, .int .u64 0, .int .i64 0, .slice none 0 0] 34) (.cells #[.bool hf, .bool hl, .bool hk] 64))
 obtain ⟨W, hW, gY, gO, gR, gH, hB, hsz⟩ := hp4 w (.cells #[.int .u64 S, vm, .int .i64 most, .slice aE s.E.length cE, .slice aK s.K.length cK, .bool on', .int .u64 R', .int .i64 I', .slice aP s.P.length cP] 34) (.cells #[.int .i64 11, .int .i64 so, .int .i64 nn, .int .u64 va, .int .u64 wd, .bool hf, .bool hl, .bool hk] 40) (.cells #[.int .u64 0, .slice none 0 0, .int .i64 0, .slice none 0 0, .slice none 0 0, .bool false, .int .u64 0, .int .i64 0, .slice none 0 0] 34) (.cells #[.bool hf, .bool hl, .bool hk] 64)
 rw [hW] at HW
 go_enter Tryz.func6, Tryz.ntmps6
 go_upto_region 2 with fail
 (try rw [hW])
 clear hW hsz
 have HB := Hid.mk hB
 clear hB
 obtain ⟨o0, o1, o2, o3, o4, o5, o6, o7⟩ := qay gO
 obtain ⟨c0, c1, c2, c3, c4, c5, c6, c7, c8⟩ := qal gY
 obtain ⟨t0, t1, t2⟩ := qan gH
 have hb1 := qac W (.cells #[.int .u64 va, .bool hf, .bool hl, .bool hk, .int .u64 vq, .bool hf, .bool hl, .bool hk] 76)
 have gP := heap_alloc_new W (.cells #[.int .u64 va, .bool hf, .bool hl, .bool hk, .int .u64 vq, .bool hf, .bool hl, .bool hk] 76)
 have hK1 : w.heap.size + 1 + 1 + 1 < W.heap.size := qag gH
 have HW1 := Hid.mk (HW.out.own (.cells #[.int .u64 va, .bool hf, .bool hl, .bool hk, .int .u64 vq, .bool hf, .bool hl, .bool hk] 76))
 go_upto_region 40 with fail
 generalize W.alloc (.cells #[.int .u64 va, .bool hf, .bool hl, .bool hk, .int .u64 vq, .bool hf, .bool hl, .bool hk] 76) = W1 at *
 obtain ⟨gY, gO, gR, gH⟩ := bl4 hb1 gY gO gR gH
 have hK2 : W.heap.size < W1.heap.size := qag gP
 clear o0 o1 o2 o3 o4 o5 o6 o7 c0 c1 c2 c3 c4 c5 c6 c7 c8 t0 t1 t2
 obtain ⟨o0, o1, o2, o3, o4, o5, o6, o7⟩ := qay gO
 obtain ⟨t0, t1, t2⟩ := qan gH
 have hb2 := qac W1 (.cells #[.int .u64 va, .bool hf, .bool hl, .bool hk, .int .u64 vq, .bool hf, .bool hl, .bool hk] 79)
 have gQ := heap_alloc_new W1 (.cells #[.int .u64 va, .bool hf, .bool hl, .bool hk, .int .u64 vq, .bool hf, .bool hl, .bool hk] 79)
 have HB2 := Hid.mk (qab (qab HB.out hb1) hb2)
 have HW2 := Hid.mk (HW1.out.own (.cells #[.int .u64 va, .bool hf, .bool hl, .bool hk, .int .u64 vq, .bool hf, .bool hl, .bool hk] 79))
 obtain ⟨gY2, gO2, gR2, gP2⟩ := bl4 hb2 gY gO gR gP
 clear HW HW1 gY gR gO gP gH hb1 hb2 HB
 generalize hKK1 : W.heap.size = K1 at *
 generalize hKK2 : W1.heap.size = K2 at *
 go_upto_region 41 with
  first
  | (refine qad rfl 32 _ _ rfl rfl w.heap.size 8 _ #[.slice (some ⟨K2, 0, none⟩) 2 2] rfl rfl rfl 34 _ gY2 (show 8 + 1 ≤ 9 by decide) info_ps (by simp [Value.oneCell']) #[.int .u64 S, vm, .int .i64 most, .slice aE s.E.length cE, .slice aK s.K.length cK, .bool on', .int .u64 R', .int .i64 I', .slice (some ⟨K2, 0, none⟩) 2 2] rfl ?_
     intro wy hry hty)
  | fail
 have HW3 := Hid.mk (HW2.out.put hty (by simp))
 have HB3 := Hid.mk (qaf HB2.out hty (Nat.le_refl _))
 obtain ⟨gR2, gO2, gP2, gQ⟩ := bt4 hty gR2 gO2 gP2 gQ
 clear o0 o1 o2 o3 o4 o5 o6 o7 t0 t1 t2 HW2 HB2 gY2 hty
 obtain ⟨-, -, o2, -⟩ := qay gO2
 go_upto_region 43 with
  first
  | (refine qad rfl 32 _ _ rfl rfl w.heap.size 8 _ #[.slice none 0 0] rfl rfl rfl 34 _ hry (show 8 + 1 ≤ 9 by decide) info_ps (by simp [Value.oneCell']) #[.int .u64 S, vm, .int .i64 most, .slice aE s.E.length cE, .slice aK s.K.length cK, .bool on', .int .u64 R', .int .i64 I', .slice none 0 0] rfl ?_
     intro wx hrx htx)
  | fail
 replace HW3 := Hid.mk (HW3.out.put htx (by simp))
 replace HB3 := Hid.mk (qaf HB3.out htx (Nat.le_refl _))
 obtain ⟨gR2, gP2, gQ⟩ := bt3 htx gR2 gP2 gQ
 clear o2 gO2 hry htx
 obtain ⟨k0, k1, k2, k3, k4, k5, k6, k7, k8⟩ := qal hrx
 clear hrx
 have hdr := (Below.refl wx.heap.size wx).drew
 obtain ⟨gR2, gP2, gQ⟩ := bl3 hdr gR2 gP2 gQ
 replace HW3 := Hid.mk ((HW3.out.later hdr).lessF (F' := ([w.heap.size + 1 + 1 + 1, w.heap.size + 1 + 1, w.heap.size + 1, w.heap.size] ++ F)) (fun g hg => List.mem_cons_of_mem _ (List.mem_cons_of_mem _ hg)))
 replace HB3 := Hid.mk (qab HB3.out hdr)
 clear hdr
 obtain ⟨k0, k1, k2, k3, k4⟩ := cl5 (Below.refl _ wx).drew k0 k1 k2 k3 k4
 obtain ⟨k5, k6, k7, k8⟩ := cl4 (Below.refl _ wx).drew k5 k6 k7 k8
 refine hd9 k0 k1 k2 k3 k4 k5 k6 k7 k8 (h := fun hHeld => ?_)
 refine tk 0 253 (h := ?_)
 refine tk 1 254 (h := ?_)
 refine tk 2 255 (h := ?_)
 generalize wx.drew = Wd at *
 refine rd1 3 (h := fun K hK => ?_)
 go_simp
 refine (HW3.out.one.does (fun X hM => plan_few hM [] 0 none (by simp) (Or.inl rfl) (PL.RdA.nil _ _) (fun p hp => absurd hp List.not_mem_nil))).mono ?_
 rintro e w5 ⟨rfl, h5, hk5⟩
 go_wp2_with fail
 replace k0 := hk5.cell (by simp) k0
 replace k1 := hk5.cell (by simp) k1
 replace k2 := hk5.cell (by simp) k2
 replace k3 := hk5.cell (by simp) k3
 replace k4 := hk5.cell (by simp) k4
 replace k5 := hk5.cell (by simp) k5
 replace k6 := hk5.cell (by simp) k6
 replace k7 := hk5.cell (by simp) k7
 replace k8 := hk5.cell (by simp) k8
 replace gR2 := hk5.row (by simp) gR2
 replace gQ := hk5.row (by simp) gQ
 have H5 := Hid.mk (HW3.out.acts h5 hk5)
 have HK5 := Hid.mk hk5
 clear h5 hk5 HW3
 refine hK.out _ _ ⟨k0, k1, k2, k3, k4, k5, k6, k7, k8⟩ (fun hHeldc0 => ?_)
 clear hK
 try simp only [Act.put, sq]
 refine tk 4 257 (h := ?_)
 refine tk 5 258 (h := ?_)
 refine tk 6 259 (h := ?_)
 refine rd1 7 (h := fun K hK => ?_)
 go_simp
 obtain ⟨arr, hmk⟩ := mk9 w5
 rw [hmk]
 have hbm := qac w5 (.cells arr 76)
 have HO6 := Hid.mk (H5.out.later hbm)
 have HK6 := Hid.mk (((Kp.below H0.out.one (Kp.refl l w) HB3.out).trans (HK5.out.less (fun g hg => by simp [hg]))).below H0.out.one hbm)
 obtain ⟨gR2, gQ⟩ := bl2 hbm gR2 gQ
 obtain ⟨k0, k1, k2, k3, k4⟩ := cl5 hbm k0 k1 k2 k3 k4
 obtain ⟨k5, k6, k7, k8⟩ := cl4 hbm k5 k6 k7 k8
 clear hmk hbm H5 HK5
 generalize w5.alloc (.cells arr 76) = w6 at *
 generalize w5.heap.size = KM at *
 go_simp
 refine hK.out _ _ ⟨k0, k1, k2, k3, k4, k5, k6, k7, k8⟩ (fun hHeldc1 => ?_)
 clear hK
 try simp only [Act.put, sq]
 refine rd1 8 (h := fun K hK => ?_)
 go_simp
 refine (plan_many 9 9 (some ⟨KM, 0, none⟩) (by decide)).mono ?_
 rintro e w7 ⟨rfl, e7⟩
 obtain rfl : w6 = w7 := e7
 go_wp2_with fail
 refine hK.out _ _ ⟨k0, k1, k2, k3, k4, k5, k6, k7, k8⟩ (fun hHeldc2 => ?_)
 clear hK
 try simp only [Act.put, sq]
 refine tk 9 262 (h := ?_)
 refine tk 10 263 (h := ?_)
 refine rd1 11 (h := fun K hK => ?_)
 refine qah rfl rfl 34 _ _ rfl (w.heap.size + 1 + 1) 0 _ #[.int .u64 S, vm, .int .i64 most, .slice aE s.E.length cE, .slice aK s.K.length cK, .bool on', .int .u64 R', .int .i64 I', .slice none 0 0] rfl rfl rfl 34 _ gR2 (show 0 + 9 ≤ 9 by decide) qao (qdm HV1.out) #[.int .u64 S, vm, .int .i64 most, .slice aE s.E.length cE, .slice aK s.K.length cK, .bool on', .int .u64 R', .int .i64 I', .slice none 0 0] rfl ?_
 intro wz hrz htz
 obtain ⟨k0, k1, k2, k3, k4⟩ := tc5 htz k0 k1 k2 k3 k4
 obtain ⟨k5, k6, k7, k8⟩ := tc4 htz k5 k6 k7 k8
 refine hK.out _ _ ⟨k0, k1, k2, k3, k4, k5, k6, k7, k8⟩ (fun hHeldz => ?_)
 clear hK
 try simp only [Act.put, sq]
 clear k0 k1 k2 k3 k4 k5 k6 k7 k8
 refine tk 12 7 (h := ?_)
 refine wpAnyH_done (by kernel_rfl) ?_ _
 refine NoPanic.normal ?_
 go_wp2_with fail
 refine bodyPost_ret (TR.qax (p := 6) (u := 7) rfl _ _ (w.heap.size + 1 + 1) 34 _ _ _ rfl hrz Tryz.underlying34 rfl qao) rfl ?_
 exact H0.out.fin3 (l1 := [K2, K1]) HK6.out (HO6.out.nilP 0) htz rfl
end
theorem vst_any {w0 w : World} {l F : List Nat} {x a n m S : Nat} {most : Int} {s : St} {d : Yd} (h : Duo w0 w l F x a n S most s m s d) (hm : m + 1 < 1000000) (hn : n < 1000000) (kd so nn : Int) (va wd : Nat) (hf hl hk : Bool) (hva : va < 18446744073709551616) (hwd : wd < 18446744073709551616) :
  Calls Tryz.prog 6 #[.pointer (some ⟨x, 0, none⟩), .agg (d.cs S most s), .agg #[.int .i64 kd, .int .i64 so, .int .i64 nn, .int .u64 va, .int .u64 wd, .bool hf, .bool hl, .bool hk]] w (VO w0 w l F x a (n + 1) S most (m + 1)) := by
 have hI : 0 ≤ nn → ∀ k : Nat, inB nn k = decide (nn < (k : Int)) := fun h k => by unfold inB; by_cases c : nn < (k : Int) <;> simp [h, c]
 have hJ : ¬ 0 ≤ nn → ∀ k : Nat, inB nn k = false := fun h k => by unfold inB; simp [h]
 by_cases e1 : kd = 1
 ·subst e1
  exact vst_1 h hm hn so nn va wd hf hl hk hva hwd
 by_cases e2 : kd = 2
 ·subst e2
  exact vst_2 h hm hn so nn va wd hf hl hk hva hwd
 by_cases e3 : kd = 3
 ·subst e3
  exact vst_3 h hm hn so nn va wd hf hl hk hva hwd
 by_cases e4 : kd = 4
 ·subst e4
  by_cases hN : 0 ≤ nn
  ·exact vst_4y h hm hn so nn va wd hf hl hk hva hwd hN _ (hI hN _) rfl
  ·exact vst_4n h hm hn so nn va wd hf hl hk hva hwd hN _ (hJ hN _) rfl
 by_cases e5 : kd = 5
 ·subst e5
  by_cases hN : 0 ≤ nn
  ·exact vst_5y h hm hn so nn va wd hf hl hk hva hwd hN _ (hI hN _) rfl
  ·exact vst_5n h hm hn so nn va wd hf hl hk hva hwd hN _ (hJ hN _) rfl
 by_cases e6 : kd = 6
 ·subst e6
  exact vst_6 h hm hn so nn va wd hf hl hk hva hwd
 by_cases e7 : kd = 7
 ·subst e7
  by_cases hN : nn < 0
  ·exact vst_7a h hm hn so nn va wd hf hl hk hva hwd hN
  ·exact vst_7b h hm hn so nn va wd hf hl hk hva hwd hN
 by_cases e8 : kd = 8
 ·subst e8
  exact vst_8 h hm hn so nn va wd hf hl hk hva hwd
 by_cases e9 : kd = 9
 ·subst e9
  cases hb : rgB wd
  ·by_cases hz : ((wd : Nat) : Int) % 4096 = 0
   ·exact vst_9b h hm hn so nn va wd hf hl hk hva hwd hb hz
   ·exact vst_9a h hm hn so nn va wd hf hl hk hva hwd hb hz
  ·exact vst_9c h hm hn so nn va wd hf hl hk hva hwd hb
 by_cases e10 : kd = 10
 ·subst e10
  exact vst_10 h hm hn so nn va wd hf hl hk hva hwd
 by_cases e11 : kd = 11
 ·subst e11
  by_cases hN : nn < 0
  ·exact vst_11n h hm hn so nn va wd hf hl hk hva hwd _ rfl hN
  ·exact vst_11y h hm hn so nn va wd hf hl hk hva hwd _ rfl hN
 by_cases e12 : kd = 12
 ·subst e12
  exact vst_12 h hm hn so nn va wd hf hl hk hva hwd
 exact vst_x h hm hn e1 e2 e3 e4 e5 e6 e7 e8 e9 e10 e11 e12 so nn va wd hf hl hk hva hwd
end Go.Proofs.YtfdbdeckohaneaaGreatDoor.MM
set_option linter.unusedVariables false
namespace Go.Proofs.YtfdbdeckohaneaaGreatDoor.MM.mmuPlays
open Go.ChangeShapes Go.WideShapes Go.ChangeAt Go.RowKit Go.Lib Go.Maps
theorem plays_many (n cap : Nat) (ad : Option Addr) (most : Int) (ado : Option Addr) (no capo : Nat) (hn : 60 < n) (w : World) (hF : FA w) :
  Calls Tryz.prog 3 #[.slice ad n cap, .int .i64 most, .slice ado no capo] w fun r w' => r = .returned (.bool true) ∧ Below w.heap.size w w' := by
 have hC := anchor_any w hF
 have hO := fun W => opened_many n cap ad most hn W
 have hn2 : (60 : Int) < (n : Int) := by omega
 clear hF hn
 go_enter Tryz.func3, Tryz.ntmps3
 go_wp2_with fail
 refine hC.mono ?_
 rintro e w1 ⟨rfl, hb1⟩
 clear hC
 go_wp2_with fail
 refine (hO w1).mono ?_
 rintro e w2 ⟨rfl, hb2⟩
 have HB := Hid.mk (qab hb1 hb2)
 clear hb1 hb2 hO
 go_wp2
 go_ret
 exact ⟨rfl, qab HB.out (qac _ _)⟩
theorem plays_bad (n cap : Nat) (ad : Option Addr) (V V' : Nat → Nat) (most : Int) (ado : Option Addr) (no capo : Nat) (hn : n ≤ 60) (hbad : most < 1 ∨ 64 < most) (w : World) (hst : StepsAt w ad n V V') (hF : FA w) :
  Calls Tryz.prog 3 #[.slice ad n cap, .int .i64 most, .slice ado no capo] w fun r w' => r = .returned (.bool true) ∧ Below w.heap.size w w' := by
 have hC := anchor_any w hF
 have HST := Hid.mk hst
 have hO := fun W (h : StepsAt W ad n V V') => opened_bad n cap ad V V' most hn hbad W h
 have hn2 : ¬ (60 : Int) < (n : Int) := by omega
 clear hF hn hst
 go_enter Tryz.func3, Tryz.ntmps3
 go_wp2_with fail
 refine hC.mono ?_
 rintro e w1 ⟨rfl, hb1⟩
 clear hC
 go_wp2_with fail
 refine (hO w1 (HST.out.later hb1)).mono ?_
 rintro e w2 ⟨p, N, c, rfl, hb2⟩
 have HB := Hid.mk (qab hb1 hb2)
 clear hb1 hb2 hO
 rcases hbad with h1 | h1
 ·go_wp2
  go_ret
  exact ⟨rfl, qab HB.out (qac _ _)⟩
 ·have h2 : ¬ most < 1 := by omega
  go_wp2
  go_ret
  exact ⟨rfl, qab HB.out (qac _ _)⟩
theorem plays_long (n cap : Nat) (ad : Option Addr) (V V' : Nat → Nat) (most : Int) (ado : Option Addr) (no capo : Nat) (hn : n ≤ 60) (m1 : 1 ≤ most) (m64 : most ≤ 64) (hno : 40 < no) (w : World) (hst : StepsAt w ad n V V') (hF : FA w) :
  Calls Tryz.prog 3 #[.slice ad n cap, .int .i64 most, .slice ado no capo] w fun r w' => r = .returned (.bool true) ∧ Below w.heap.size w w' := by
 have hC := anchor_any w hF
 have HF := Hid.mk hF
 have HST := Hid.mk hst
 have hO := fun W (h : StepsAt W ad n V V') hf => opened_ok n cap ad V V' most hn m1 m64 W h hf
 have hn2 : ¬ (60 : Int) < (n : Int) := by omega
 have hno2 : (40 : Int) < (no : Int) := by omega
 have hm1 : ¬ most < 1 := by omega
 have hm64 : ¬ (64 : Int) < most := by omega
 clear hF hn hst hno m1 m64
 go_enter Tryz.func3, Tryz.ntmps3
 go_wp2_with fail
 refine hC.mono ?_
 rintro e w1 ⟨rfl, hb1⟩
 clear hC
 go_wp2_with fail
 refine (hO w1 (HST.out.later hb1) (HF.out.later hb1)).mono ?_
 rintro e w2 ⟨x, a, v, rfl, hK⟩
 have HB := Hid.mk (qab hb1 hK.bel)
 obtain ⟨X, -, L, hp, -⟩ := hK.mch
 obtain ⟨p, c, rfl, -⟩ := hp.form
 generalize L.length = N at *
 clear hb1 hO hK hp
 go_wp2
 go_ret
 exact ⟨rfl, qab HB.out (qac _ _)⟩
theorem walk_main (n cap : Nat) (ad : Option Addr) (V V' : Nat → Nat) (most : Int) (ado : Option Addr) (capo : Nat) (ops : List Mo) (hn : n ≤ 60) (m1 : 1 ≤ most) (m64 : most ≤ 64) (hno : ops.length ≤ 40) (w : World) (hst : StepsAt w ad n V V') (hrd : MoRd w ado ops) (hok : ∀ q ∈ ops, q.ok) (hF : FA w) :
  Calls Tryz.prog 3 #[.slice ad n cap, .int .i64 most, .slice ado ops.length capo] w fun r w' => r = .returned (.bool true) ∧ Below w.heap.size w w' := by
 have hC := anchor_any w hF
 have HF := Hid.mk hF
 have HST := Hid.mk hst
 have HRD := Hid.mk hrd
 have HOK : Hid (∀ i, i < ops.length → (gM ops i).ok) := fun i hi => hok _ (by rw [gM_pos ops i hi]; exact List.getElem_mem hi)
 have hO := fun W (h : StepsAt W ad n V V') hf => opened_ok n cap ad V V' most hn m1 m64 W h hf
 have hno2 : ¬ (40 : Int) < (ops.length : Int) := by omega
 have HNO := Hid.mk hno
 clear hF hn hst hno hrd hok m1 m64
 go_enter Tryz.func3, Tryz.ntmps3
 go_wp2_with fail
 refine hC.mono ?_
 rintro e w1 ⟨rfl, hb1⟩
 clear hC
 go_wp2_with fail
 refine (hO w1 (HST.out.later hb1) (HF.out.later hb1)).mono ?_
 rintro e w2 ⟨x, a, v, rfl, hK⟩
 have HBW := Hid.mk hb1
 obtain ⟨l, L, p, c, rfl, hD⟩ := hK.duo
 have HD := Hid.mk (hD.own (.cells #[.int .u64 1048576, .slice p L.length c, .int .i64 most, .slice none 0 0, .slice none 0 0, .bool false, .int .u64 0, .int .i64 0, .slice none 0 0] 34))
 have gY := heap_alloc_new w2 (.cells #[.int .u64 1048576, .slice p L.length c, .int .i64 most, .slice none 0 0, .slice none 0 0, .bool false, .int .u64 0, .int .i64 0, .slice none 0 0] 34)
 clear hb1 hD hO hK
 go_upto_region 4 with fail
 generalize w2.alloc (.cells #[.int .u64 1048576, .slice p L.length c, .int .i64 most, .slice none 0 0, .slice none 0 0, .bool false, .int .u64 0, .int .i64 0, .slice none 0 0] 34) = w3 at *
 generalize w2.heap.size = KY at *
 have HGY := Hid.mk gY
 clear gY
 go_wp2
 go_loopw [9, 11, 46] (fun _ _ s46 wr => ∃ (i : Nat) (s : St) (d : Yd) (l' : List Nat), i ≤ ops.length ∧ s46 = .int .i64 i ∧ Duo w1 wr l' [KY] x a (61 + i) 1048576 most s (60 + i) s d ∧ wr.heap[KY]? = some (.cells (d.cs 1048576 most s) 34 (0, 0))) (fun _ _ s46 _ => ops.length - (RowKit.intOf s46).toNat)
 case atStart => exact ⟨0, _, _, _, Nat.zero_le _, rfl, HD.out, HGY.out⟩
 case round =>
  clear HD HGY
  obtain ⟨i, s, d, l', hi, rfl, hD, hY⟩ := hrel
  by_cases hlt : i < ops.length
  ·have hlt2 : (i : Int) < ops.length := by omega
   have HLT := Hid.mk hlt
   have hib : (i : Int) < 40 := by have := HNO.out; omega
   have hm1 : 60 + i + 1 < 1000000 := by omega
   have hn1 : 61 + i < 1000000 := by omega
   obtain ⟨g, oo, rfl, hg, hc⟩ := HRD.out i hlt
   have hbW := qab HBW.out hD.one.bl
   have d0 := cell_later hbW (hc 0 _ rfl)
   have d1 := cell_later hbW (hc 1 _ rfl)
   have d2 := cell_later hbW (hc 2 _ rfl)
   have d3 := cell_later hbW (hc 3 _ rfl)
   have d4 := cell_later hbW (hc 4 _ rfl)
   have d5 := cell_later hbW (hc 5 _ rfl)
   have d6 := cell_later hbW (hc 6 _ rfl)
   have d7 := cell_later hbW (hc 7 _ rfl)
   rw [Nat.add_zero] at d0
   have hq := HOK.out i hlt
   clear hc hi hlt hg hbW
   generalize gM ops i = q at *
   obtain ⟨kd, so, nn, vb, wd, ⟨hf, hl, hk⟩⟩ := q
   obtain ⟨hvb, hwd⟩ := hq
   simp only at *
   have hrB := heap_alloc_new wr (.cells #[.int .i64 kd, .int .i64 so, .int .i64 nn, .int .u64 vb, .int .u64 wd, .bool hf, .bool hl, .bool hk] 40)
   have hbB := qac wr (.cells #[.int .i64 kd, .int .i64 so, .int .i64 nn, .int .u64 vb, .int .u64 wd, .bool hf, .bool hl, .bool hk] 40)
   have HX := Hid.mk (hD.later hbB)
   replace hY := qaa hbB hY
   clear hD hbB
   go_upto_region 9 with fail
   generalize wr.alloc (.cells #[.int .i64 kd, .int .i64 so, .int .i64 nn, .int .u64 vb, .int .u64 wd, .bool hf, .bool hl, .bool hk] 40) = w8 at *
   generalize wr.heap.size = BB at *
   obtain ⟨o0, o1, o2, o3, o4, o5, o6, o7⟩ := qay hrB
   clear d0 d1 d2 d3 d4 d5 d6 d7 hrB
   have hS := Hid.mk (vst_any HX.out hm1 hn1 kd so nn vb wd hf hl hk hvb hwd)
   have hKY : KY ∈ l' := HX.out.fr (by simp)
   have HKY := Hid.mk hKY
   clear hKY
   obtain ⟨vm, L0, aE, cE, aK, cK, aP, cP, on', R', I'⟩ := d
   replace hY : w8.heap[KY]? = some (.cells #[.int .u64 1048576, vm, .int .i64 most, .slice aE s.E.length cE, .slice aK s.K.length cK, .bool on', .int .u64 R', .int .i64 I', .slice aP s.P.length cP] 34 (0, 0)) := hY
   obtain ⟨c0, c1, c2, c3, c4, c5, c6, c7, c8⟩ := qal hY
   go_wp2_with fail
   refine hS.out.mono ?_
   rintro e w9 ⟨s1, d1, l1, rfl, h9, hk9⟩
   have hY9 := hk9.row HKY.out hY
   have HV9 := Hid.mk h9.vm1
   obtain ⟨p6, q6, e6⟩ := h9.vmf
   have H9 := Hid.mk h9
   clear hS HX c0 c1 c2 c3 c4 c5 c6 c7 c8 o0 o1 o2 o3 o4 o5 o6 o7 h9 hk9 hY
   obtain ⟨vm1, L1, aE1, cE1, aK1, cK1, aP1, cP1, on1, R1, I1⟩ := d1
   (try dsimp only at HV9 e6)
   subst e6
   go_upto_region 10 with
    first
    | (refine qad rfl 34 _ _ rfl rfl KY 0 _ #[.int .u64 1048576, .slice p6 L1.length q6, .int .i64 most, .slice aE1 s1.E.length cE1, .slice aK1 s1.K.length cK1, .bool on1, .int .u64 R1, .int .i64 I1, .slice aP1 s1.P.length cP1] rfl rfl rfl 34 _ hY9 (show 0 + 9 ≤ 9 by decide) qao (qdm HV9.out) #[.int .u64 1048576, .slice p6 L1.length q6, .int .i64 most, .slice aE1 s1.E.length cE1, .slice aK1 s1.K.length cK1, .bool on1, .int .u64 R1, .int .i64 I1, .slice aP1 s1.P.length cP1] rfl ?_
       intro wz hrz htz)
    | fail
   have H10 := Hid.mk (H9.out.put htz (by simp))
   have HRZ := Hid.mk hrz
   obtain ⟨c0, c1, c2, c3, c4, c5, c6, c7, c8⟩ := qal hrz
   clear H9 htz hrz hY9
   go_wp2_with fail
   refine (H10.out.same (by omega)).mono ?_
   rintro e w10 ⟨rfl, hb10⟩
   have H11 := Hid.mk (H10.out.later hb10)
   have HR11 := Hid.mk (qaa hb10 HRZ.out)
   clear H10 HRZ hb10 c0 c1 c2 c3 c4 c5 c6 c7 c8
   go_wp2
   exact ⟨⟨i + 1, s1, _, _, by have := HLT.out; omega, by go_num, H11.out, HR11.out⟩, by have := HLT.out; simp [RowKit.intOf]; omega⟩
  ·have hlt2 : ¬ (i : Int) < ops.length := by omega
   have HE := Hid.mk (qab HBW.out hD.one.bl)
   clear hlt hi hD hY
   go_wp2
   go_ret
   exact ⟨rfl, HE.out⟩
theorem walk (ad : Option Addr) (n cap : Nat) (V V' : Nat → Nat) (most : Int) (ado : Option Addr) (capo : Nat) (ops : List Mo) (w : World) (_ : n ≤ maxLen) (hst : StepsAt w ad n V V') (_ : ops.length ≤ maxLen) (hrd : MoRd w ado ops) (hok : ∀ q ∈ ops, q.ok) (hF : FA w) :
  Calls Tryz.prog 3 #[.slice ad n cap, .int .i64 most, .slice ado ops.length capo] w fun r w' => r = .returned (.bool true) ∧ Below w.heap.size w w' := by
 by_cases h : n ≤ 60
 ·by_cases h1 : most < 1 ∨ 64 < most
  ·exact plays_bad n cap ad V V' most ado ops.length capo h h1 w hst hF
  ·by_cases h2 : ops.length ≤ 40
   ·exact walk_main n cap ad V V' most ado capo ops h (by omega) (by omega) h2 w hst hrd hok hF
   ·exact plays_long n cap ad V V' most ado ops.length capo h (by omega) (by omega) (by omega) w hst hF
 ·exact plays_many n cap ad most ado ops.length capo (by omega) w hF
theorem met {W : World} (h : laidMet Tryz.prog Rows.mmuPlaysRow.laid W) : FA W := by
 have h1 := TR.qdo (g := 0) (by kernel_rfl) (by kernel_rfl) (Lib.laidMet.reads h (n := "portreeve/desc.outField") (d := Rows.laid_portreeve_desc_outField) (by simp [Rows.mmuPlaysRow]))
 have h2 := TR.qdo (g := 2) (by kernel_rfl) (by kernel_rfl) (Lib.laidMet.reads h (n := "portreeve/desc.attrField") (d := Rows.laid_portreeve_desc_attrField) (by simp [Rows.mmuPlaysRow]))
 have h3 := TR.qdo (g := 3) (by kernel_rfl) (by kernel_rfl) (Lib.laidMet.reads h (n := "portreeve/trail.tableField") (d := Rows.laid_portreeve_trail_tableField) (by simp [Rows.mmuPlaysRow]))
 have h4 := TR.qdo (g := 1) (by kernel_rfl) (by kernel_rfl) (Lib.laidMet.reads h (n := "portreeve/desc.asidField") (d := Rows.laid_portreeve_desc_asidField) (by simp [Rows.mmuPlaysRow]))
 exact ⟨⟨⟨h1.1, h1.2, h2.1, h2.2⟩, h3.1, h3.2⟩, h4.1, h4.2⟩
theorem own : ownKnob Tryz.prog.godebug = none := by kernel_rfl
theorem laidOut : laidOutB Tryz.prog = true := by kernel_rfl
set_option linter.unusedVariables false in
theorem contract (H : Type) (enc : TypeId × Value → H) (W : World) (base : Nat) (args : Array Value) (ds gs : List (DataW H)) (before : List MemPlace)
  (hval0 : ∀ (j : Nat) t v, Tryz.f3.params[j]? = some t → args[j]? = some v → Value.okWide Tryz.prog W .any base t v)
  (hW : DataW.Whole enc Tryz.prog Tryz.f3.params.toList Rows.mmuPlaysSpec.vars false W args.toList ds gs before) (hL0 : laidMetH Tryz.prog Rows.mmuPlaysRow.laid W) :
  Calls Tryz.prog 3 args W fun e W' => ∃ v, e = .returned v ∧ Rows.mmuPlaysSpec.post enc Tryz.prog Tryz.f3 false true false false W args v W' := by
 have hL := hL0
 rw [MakeChecks.laidMetH_plain _ _ _ (by kernel_rfl)] at hL
 have hval := hval0
 have hW' := hW
 obtain ⟨p, q, hA0, hV, rfl, hfz, hnd⟩ := hW
 have hA : DataW.TrodAll enc Tryz.prog W 0 (fun _ => true) true Tryz.f3.params.toList args.toList ds p := hA0
 rw [Tryz.params3] at hA hval
 obtain ⟨v0, vs0, d0, ds0, p0, q0, hargs, rfl, rfl, h0, r0⟩ := trodAll_cons hA
 obtain ⟨v1, vs1, d1, ds1, p1, q1, rfl, rfl, rfl, h1, r1⟩ := trodAll_cons r0
 obtain ⟨v2, vs2, d2, ds2, p2, q2, rfl, rfl, rfl, h2, r2⟩ := trodAll_cons r1
 obtain ⟨rfl, rfl, rfl⟩ := trodAll_nil r2
 obtain rfl : args = #[v0, v1, v2] := by cases args; simp_all
 obtain ⟨rfl, rfl⟩ := trodVars_none hV
 have k0 := h0
 have lt0 : ∀ x ∈ p0, x.block < W.heap.size := by obtain ⟨m, hm⟩ := k0; exact DataW.trod_lt m _ _ _ hm
 have k1 := h1
 have lt1 : ∀ x ∈ p1, x.block < W.heap.size := by obtain ⟨m, hm⟩ := k1; exact DataW.trod_lt m _ _ _ hm
 have k2 := h2
 have lt2 : ∀ x ∈ p2, x.block < W.heap.size := by obtain ⟨m, hm⟩ := k2; exact DataW.trod_lt m _ _ _ hm
 obtain ⟨ad0, n0, cap0, A0, V0, rfl, mx0, ho0⟩ := open_steps (hval 0 22 v0 rfl rfl) h0
 obtain ⟨a1, rfl, _, _, w1⟩ := open_int Tryz.underlying3 (hval 1 3 v1 rfl rfl) h1
 obtain ⟨ad2, cap2, l2, rfl, mx2, rd2, ok2⟩ := open_mops (hval 2 23 v2 rfl rfl) h2
 clear hA0 hval0
 refine (walk ad0 n0 cap0 A0 V0 a1 ad2 cap2 l2 W mx0 ho0 mx2 rd2 ok2 (met hL)).mono fun e W' ⟨he, bel⟩ => ?_
 subst he
 exact ⟨_, rfl, _, _, _, [], _, [], hW', trodAll_mk1 (shut_bool Tryz.underlying4 _), (trodAll_cons_mk (Below.trod laidOut (by kernel_rfl) (of_decide_eq_true (by kernel_rfl)) k0 bel lt0) (trodAll_cons_mk (Below.trod laidOut (by kernel_rfl) (of_decide_eq_true (by kernel_rfl)) k1 bel lt1) (trodAll_cons_mk (Below.trod laidOut (by kernel_rfl) (of_decide_eq_true (by kernel_rfl)) k2 bel lt2) trodAll_mk0))), rfl, bel.frame _, fun h => by cases h⟩
theorem laid_met (os : Os) : laidMet Tryz.prog Rows.mmuPlaysRow.laid ((World.laidAll Tryz.prog os Rows.mmuPlaysRow.laid).forCall (fun _ _ => 0) ⟨#[], #[.slice none 0 0, .int .i64 0, .slice none 0 0], []⟩).memory :=
 laidMet_laidAll _ (by kernel_rfl) (by kernel_rfl)
theorem reads (os : Os) {H : Type} (enc : TypeId × Value → H) : ∃ places, DataW.whole enc Tryz.prog ((World.laidAll Tryz.prog os Rows.mmuPlaysRow.laid).forCall (fun _ _ => 0) ⟨#[], #[.slice none 0 0, .int .i64 0, .slice none 0 0], []⟩).memory Tryz.f3.params.toList Rows.mmuPlaysSpec.vars false (#[.slice none 0 0, .int .i64 0, .slice none 0 0] : Array Value).toList 8 = some ([.nil, .lit (.int .i64 0), .nil], [], places) :=
 ⟨[], by kernel_rfl⟩
theorem lifted (os : Os) (started : os.Started) (H : Type) (enc : TypeId × Value → H) (F : Stop.Interp) :
  ReturnsInHanded {} Tryz.checked os 3 .any ((OpenSpec.ofChange Rows.mmuPlaysSpec).preRow enc Tryz.prog Tryz.f3 Rows.mmuPlaysRow.domain false Rows.mmuPlaysRow.laid) (((OpenSpec.ofChange Rows.mmuPlaysSpec).at F).post enc Tryz.prog Tryz.f3 false true false false) := by
 obtain ⟨places, hx⟩ := reads os enc
 refine returnsInHanded_of_row (C := Tryz.checked) (s := (OpenSpec.ofChange Rows.mmuPlaysSpec)) own started (by kernel_rfl) Tryz.func3
  (witness_row_at (enc := enc) (C := Tryz.checked) false (World.laidAll Tryz.prog os Rows.mmuPlaysRow.laid) #[.slice none 0 0, .int .i64 0, .slice none 0 0] (World.laidAll_os _ _ _) (by kernel_rfl) (by kernel_rfl) (by kernel_rfl)
   (OpenSpec.preRow_of_cond 8 hx (by kernel_rfl) (fun k hk => by cases hk) (by kernel_rfl) (laid_met os))) ?_
 intro W base args ds gs before hval hW _ _ _ hL _ _
 exact contract H enc W base args ds gs before hval hW hL
theorem said : Rows.MmuPlaysSaid :=
 OpenClaim.holds_of_cond 3 Tryz.f3 rfl rfl rfl rfl rfl rfl rfl ⟨rfl, rfl, rfl, rfl, rfl⟩ rfl rfl rfl rfl rfl (by kernel_rfl) Tryz.func3 (by kernel_rfl)
  (of_decide_eq_true (by kernel_rfl)) (by unfold Func.isWrapper; first | (rw [if_pos (by decide +kernel)]; kernel_rfl) | (rw [if_neg (by decide +kernel)]; exact ⟨rfl, rfl⟩))
  (fun os started H enc _ F => by rw [OpenClaim.pre_eq_preRow]; exact lifted os started H enc F)
theorem plain (f : FuncId) (fn : Func) (hf : Tryz.pinned.checked.prog.funcNamed "portreeve/portreevelaw09.MmuPlays" = some f) (hfn : Tryz.pinned.checked.prog.funcs[f]? = some fn) :
  true = Tryz.pinned.checked.prog.looks [] ∧ ∀ (j : Nat) t, fn.params[j]? = some t → Tryz.pinned.checked.prog.wantsStandIn t = false := by
 obtain rfl : f = 3 := Option.some.inj ((show Tryz.prog.funcNamed "portreeve/portreevelaw09.MmuPlays" = some 3 by kernel_rfl).symm.trans hf) |>.symm
 obtain rfl : fn = Tryz.f3 := (Option.some.inj (Tryz.func3.symm.trans hfn)).symm
 refine ⟨by kernel_rfl, fun j t ht => ?_⟩
 rw [Tryz.params3] at ht
 have hm : t ∈ [22, 3, 23] := by simpa using Array.mem_of_getElem? ht
 have hall : ([22, 3, 23].all fun u => !Tryz.prog.wantsStandIn u) = true := by kernel_rfl
 exact (show Tryz.prog.wantsStandIn t = false by simpa using List.all_eq_true.1 hall t hm)
theorem card : Rows.MmuPlaysCardSaid :=
 Claim7.holds_tied_plain_at .later [] _ _ _ _ said (fun _ h => by cases h) (by kernel_rfl) (fun _ h => by cases h) mmuPlays_row_tie rfl ⟨rfl, rfl⟩ (by kernel_rfl) rfl plain (by kernel_rfl)
end Go.Proofs.YtfdbdeckohaneaaGreatDoor.MM.mmuPlays
