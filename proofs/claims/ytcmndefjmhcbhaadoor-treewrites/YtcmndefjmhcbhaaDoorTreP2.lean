/- A slot and the one derived from it, as lists. -/
import Derived.Test.YtcmndefjmhcbhaaDoorCards
import Derived.Test.YtcmndefjmhcbhaaDoorTie
import Derived.Test.YtcmndefjmhcbhaaDoorCapH
import Derived.ProofKit
import Derived.OpenShut
import Derived.SizedLaws
import Derived.Lay
import Derived.SevenTiedAt
import Derived.Deep.DeepHandedRow
import Derived.Deep.DeepWitnessRowRef
import Derived.Lib.LaidIn
import Derived.Lib.LaidTab
import Derived.Lib.LaidU8
import Derived.Lib.SmallJoins
import Derived.Deep.Strs
import Derived.WideShapes
import Derived.Test.YtcmndefjmhcbhaaDoorTreP1

/- What every tied row of package cap needs: the parts' cells out of the row's list; a capability as an argument. -/
namespace Go.Proofs.YtcmndefjmhcbhaaDoor
open Go.RowKit Go.Lib Go.ChangeShapes Go.WideShapes Go.ChangeAt Go.Joins

theorem array3 {α : Type} {cs : Array α} (h : cs.size = 3) : ∃ c0 c1 c2, cs = #[c0, c1, c2] := by
  obtain ⟨l⟩ := cs
  match l, h with
  | [c0, c1, c2], _ => exact ⟨c0, c1, c2, rfl⟩
theorem array7 {α : Type} {cs : Array α} (h : cs.size = 7) : ∃ c0 c1 c2 c3 c4 c5 c6, cs = #[c0, c1, c2, c3, c4, c5, c6] := by
  obtain ⟨l⟩ := cs
  match l, h with
  | [c0, c1, c2, c3, c4, c5, c6], _ => exact ⟨c0, c1, c2, c3, c4, c5, c6, rfl⟩

/-- A part as a variable holds its three ints, cell by cell. -/
theorem part_of_reads {W : World} {n : String} {g : Nat} {a b c : Int} (hg : Tryd.prog.globalNamed n = some g) (ht : (Tryd.prog.globals[g]?).map (·.type) = some 114)
    (h : VarReads Tryd.prog W n (.agg [.agg [.lit (.int .i64 a), .lit (.int .i64 b)], .lit (.int .i64 c)])) : W.cell? ⟨g, 0, none⟩ = some (.int .i64 a) ∧ W.cell? ⟨g, 1, none⟩ = some (.int .i64 b) ∧ W.cell? ⟨g, 2, none⟩ = some (.int .i64 c) := by
  obtain ⟨g', t, cs, fuel, p, hg', hty, hvar, hd⟩ := h
  obtain rfl := Option.some.inj (hg.symm.trans hg')
  obtain rfl := Option.some.inj (ht.symm.trans hty)
  obtain ⟨y0, y1, m, hx, hl, h0, h1⟩ := trod_struct2 Tryd.underlying114 hd
  have hc : Tryd.prog.cellsOf 114 = 3 := by kernel_rfl
  have hcf : Tryd.prog.cellsOf 105 = 2 := by kernel_rfl
  have hc1 : Tryd.prog.cellsOf 3 = 1 := by kernel_rfl
  obtain ⟨c0, c1, c2, rfl⟩ := array3 (cs := cs) (by simpa [hc] using hl)
  simp [hc1, hcf] at h0 h1
  obtain ⟨u0, u1, m', hx', hl', h00, h01⟩ := trod_struct2 Tryd.underlying105 h0
  simp [hc1] at h00 h01
  obtain ⟨z0, e0, x0, _⟩ := DataW.trod_int Tryd.underlying3 h00
  obtain ⟨z1, e1, x1, _⟩ := DataW.trod_int Tryd.underlying3 h01
  obtain ⟨z2, e2, x2, _⟩ := DataW.trod_int Tryd.underlying3 h1
  subst x0 x1 x2
  subst hx'
  simp at hx e0 e1 e2
  obtain ⟨⟨⟨rfl, rfl⟩, rfl⟩, _⟩ := hx
  rw [World.var?_cell hg hvar 0, World.var?_cell hg hvar 1, World.var?_cell hg hvar 2]
  simp [e0, e1, e2]

set_option maxRecDepth 100000 in
/-- A capability that comes in as an argument. -/
theorem open_cap {H : Type} {enc : TypeId × Value → H} {w : World} {base : Nat} {spare : Nat → Bool} {held : Bool} {r : Reach} {b0 : Nat} {v : Value} {d : DataW H} {p : List MemPlace}
    (hv : Value.okWide Tryd.prog w r b0 33 v) (h : DataW.Trod enc Tryd.prog w base spare held 33 v d p) :
    ∃ (k : Int) (a : Nat) (b ri g s : Int) (m : Nat), v = .agg #[.int .i64 k, .int .u64 (a : Nat), .int .i64 b, .int .i64 ri, .int .i64 g, .int .i64 s, .int .u64 (m : Nat)] ∧ a < 18446744073709551616 ∧ m < 18446744073709551616 := by
  obtain ⟨cs, rfl, hsz⟩ := okWide_struct Tryd.underlying33 hv
  have hc : Tryd.prog.cellsOf 33 = 7 := by kernel_rfl
  have ci : Tryd.prog.cellsOf 3 = 1 := by kernel_rfl
  have cu : Tryd.prog.cellsOf 23 = 1 := by kernel_rfl
  obtain ⟨c0, c1, c2, c3, c4, c5, c6, rfl⟩ := array7 (hsz.trans hc)
  obtain ⟨fuel, hf⟩ := h
  obtain ⟨xs, n, _, _, _, hlen, hx⟩ := DataW.trod_struct Tryd.underlying33 hf
  have hsome : ∀ i, i < 7 → ∃ y, xs[i]? = some y := fun i hi => ⟨xs[i]'(by rw [hlen]; exact hi), by simp⟩
  obtain ⟨y0, q0⟩ := hsome 0 (by omega)
  obtain ⟨y1, q1⟩ := hsome 1 (by omega)
  obtain ⟨y2, q2⟩ := hsome 2 (by omega)
  obtain ⟨y3, q3⟩ := hsome 3 (by omega)
  obtain ⟨y4, q4⟩ := hsome 4 (by omega)
  obtain ⟨y5, q5⟩ := hsome 5 (by omega)
  obtain ⟨y6, q6⟩ := hsome 6 (by omega)
  have h0 := (hx 0 _ rfl).trans q0
  have h1 := (hx 1 _ rfl).trans q1
  have h2 := (hx 2 _ rfl).trans q2
  have h3 := (hx 3 _ rfl).trans q3
  have h4 := (hx 4 _ rfl).trans q4
  have h5 := (hx 5 _ rfl).trans q5
  have h6 := (hx 6 _ rfl).trans q6
  obtain ⟨k, e0, _, _⟩ := DataW.trod_int Tryd.underlying3 h0
  obtain ⟨a, e1, _, wa⟩ := DataW.trod_int Tryd.underlying23 h1
  obtain ⟨b, e2, _, _⟩ := DataW.trod_int Tryd.underlying3 h2
  obtain ⟨ri, e3, _, _⟩ := DataW.trod_int Tryd.underlying3 h3
  obtain ⟨g, e4, _, _⟩ := DataW.trod_int Tryd.underlying3 h4
  obtain ⟨s, e5, _, _⟩ := DataW.trod_int Tryd.underlying3 h5
  obtain ⟨m, e6, _, wm⟩ := DataW.trod_int Tryd.underlying23 h6
  simp [Value.cells, ci, cu] at e0 e1 e2 e3 e4 e5 e6
  subst e0 e1 e2 e3 e4 e5 e6
  obtain ⟨a, rfl⟩ := Int.eq_ofNat_of_zero_le (bounds_u64 wa).1
  obtain ⟨m, rfl⟩ := Int.eq_ofNat_of_zero_le (bounds_u64 wm).1
  exact ⟨k, a, b, ri, g, s, m, rfl, by have := (bounds_u64 wa).2; omega, by have := (bounds_u64 wm).2; omega⟩
end Go.Proofs.YtcmndefjmhcbhaaDoor

/- What every tied row of package tree needs: the parts out of the row's list; steps of plays as an argument. -/
namespace Go.Proofs.YtcmndefjmhcbhaaDoor
open Go.RowKit Go.Lib Go.ChangeShapes Go.WideShapes Go.ChangeAt Go.Joins Go.Deep

theorem array2 {α : Type} {cs : Array α} (h : cs.size = 2) : ∃ c0 c1, cs = #[c0, c1] := by
  obtain ⟨l⟩ := cs
  match l, h with
  | [c0, c1], _ => exact ⟨c0, c1, rfl⟩

/-- A struct variable of two ints, cell by cell. -/
theorem two_of_reads {W : World} {n : String} {g : Nat} {a b : Int} (hg : Tryd.prog.globalNamed n = some g) (ht : (Tryd.prog.globals[g]?).map (·.type) = some 105)
    (h : VarReads Tryd.prog W n (.agg [.lit (.int .i64 a), .lit (.int .i64 b)])) : W.cell? ⟨g, 0, none⟩ = some (.int .i64 a) ∧ W.cell? ⟨g, 1, none⟩ = some (.int .i64 b) := by
  obtain ⟨g', t, cs, fuel, p, hg', hty, hvar, hd⟩ := h
  obtain rfl := Option.some.inj (hg.symm.trans hg')
  obtain rfl := Option.some.inj (ht.symm.trans hty)
  obtain ⟨y0, y1, m, hx, hl, h0, h1⟩ := trod_struct2 Tryd.underlying105 hd
  have hc : Tryd.prog.cellsOf 105 = 2 := by kernel_rfl
  have hc1 : Tryd.prog.cellsOf 3 = 1 := by kernel_rfl
  obtain ⟨c0, c1, rfl⟩ := array2 (cs := cs) (by simpa [hc] using hl)
  simp [hc1] at h0 h1
  obtain ⟨z0, e0, x0, _⟩ := DataW.trod_int Tryd.underlying3 h0
  obtain ⟨z1, e1, x1, _⟩ := DataW.trod_int Tryd.underlying3 h1
  subst x0 x1
  simp at hx e0 e1
  obtain ⟨⟨rfl, rfl⟩, _⟩ := hx
  rw [World.var?_cell hg hvar 0, World.var?_cell hg hvar 1]
  simp [e0, e1]

set_option maxRecDepth 100000 in
/-- A slice that comes in, element by element. -/
theorem open_elems {H : Type} {enc : TypeId × Value → H} {W : World} {base : Nat} {v : Value} {d : DataW H} {p : List MemPlace} {tS tE : TypeId} {c : Nat} (hu : Tryd.prog.underlying tS = some (.slice tE)) (hc : Tryd.prog.cellsOf tE = c) (hc0 : 0 < c) (hok : Value.okWide Tryd.prog W .any base tS v)
    (h : DataW.Trod enc Tryd.prog W 0 (fun _ => true) true tS v d p) :
    ∃ ad n cap, v = .slice ad n cap ∧ n ≤ maxLen ∧ ∀ i, i < n → ∃ g o cs fuel x, ad = some ⟨g, o, none⟩ ∧ g < W.heap.size ∧ (∀ j u, cs[j]? = some u → W.cell? ⟨g, o + i * c + j, none⟩ = some u) ∧ DataW.trod enc Tryd.prog W 0 (fun _ => true) true fuel tE cs = some x := by
  obtain ⟨ad, n, cap, rfl⟩ := okWide_slice hu hok
  obtain ⟨fuel, h⟩ := h
  rcases open_slice hu h with ⟨h0, _⟩ | ⟨a, len, cap', m, nn, D, Pl, hcs, hb, hl, hm, hmm, hx, hel⟩
  · simp [Value.cells] at h0
    obtain ⟨rfl, rfl, rfl⟩ := h0
    exact ⟨none, 0, 0, rfl, Nat.zero_le _, fun i hi => absurd hi (by omega)⟩
  · simp [Value.cells] at hcs
    obtain ⟨rfl, rfl, rfl⟩ := hcs
    simp only [if_true] at hmm
    subst hmm
    simp only [hc] at hel
    refine ⟨some a, n, _, rfl, by omega, fun i hi => ?_⟩
    obtain ⟨cs, hcc, ht⟩ := hel i (by omega)
    have hall := World.cells?_some hcc
    have hsp : a.spot = none := by
      obtain ⟨cs0, hc0', _⟩ := hel 0 (by omega)
      have hl0 := (World.cells?_some hc0').2.1
      have k0 := (World.cells?_some hc0').2.2 0 (by omega)
      have e0 : (a.add (0 * c)).add 0 = a := by simp [Addr.add]
      rw [e0] at k0
      have k1 : cs0[0]? ≠ none := by
        rw [Ne, List.getElem?_eq_none_iff]; omega
      cases hs : a.spot with
      | none => rfl
      | some u =>
        exfalso
        apply k1
        rw [← k0]
        unfold World.cell?
        rw [hs]
        split <;> simp
    have hadd : ∀ k, (a.add (i * c)).add k = ⟨a.block, a.off + i * c + k, none⟩ := fun k => by
      obtain ⟨b, o, s⟩ := a
      simp at hsp
      subst hsp
      unfold Addr.add
      by_cases e1 : i * c = 0
      · by_cases e2 : k = 0
        · simp [e1, e2]
        · simp [e1, e2]
      · by_cases e2 : k = 0
        · simp [e1, e2]
        · simp [e1, e2]
    have hcell : ∀ j u, cs[j]? = some u → W.cell? ⟨a.block, a.off + i * c + j, none⟩ = some u := fun j u hu => by
      have hj : j < cs.length := (List.getElem?_eq_some_iff.1 hu).1
      have := hall.2.2 j (by have := hall.2.1; omega)
      rw [hadd, hu] at this
      exact this
    have hlen : 0 < cs.length := by have := hall.2.1; omega
    refine ⟨a.block, a.off, cs, _, _, by obtain ⟨b, o, s⟩ := a; simp at hsp; subst hsp; rfl, ?_, hcell, ht⟩
    exact World.block_lt_of_cell? W ⟨a.block, a.off + i * c + 0, none⟩ (hcell 0 cs[0] (List.getElem?_eq_getElem hlen))

namespace TE
/-- A step of a play. -/
structure To where
  kd : Int
  a : Nat
  b : Nat
  c : Cg
def To.row (q : To) : Array Value := #[.int .i64 q.kd, .int .u64 (q.a : Nat), .int .u64 (q.b : Nat), .int .i64 q.c.k, .int .u64 (q.c.a : Nat), .int .i64 q.c.b, .int .i64 q.c.r, .int .i64 q.c.q, .int .i64 q.c.s, .int .u64 (q.c.m : Nat)]
structure To.Ok (q : To) : Prop where
  ha : q.a < 18446744073709551616
  hb : q.b < 18446744073709551616
  hc : q.c.Ok
def to0 : To := ⟨0, 0, 0, ⟨0, 0, 0, 0, 0, 0, 0⟩⟩
def gT (l : List To) (i : Nat) : To := l.getD i to0
theorem gT_pos (l : List To) (i : Nat) (h : i < l.length) : gT l i = l[i] := by
  unfold gT
  rw [List.getD_eq_getElem?_getD, List.getElem?_eq_getElem h]; rfl
def ToRd (w : World) (ad : Option Addr) (l : List To) : Prop :=
  ∀ i, i < l.length → ∃ g o, ad = some ⟨g, o, none⟩ ∧ g < w.heap.size ∧ ∀ j u, (gT l i).row.toList[j]? = some u → w.cell? ⟨g, o + i * 10 + j, none⟩ = some u
theorem list10 {α : Type} {l : List α} (h : l.length = 10) : ∃ c0 c1 c2 c3 c4 c5 c6 c7 c8 c9, l = [c0, c1, c2, c3, c4, c5, c6, c7, c8, c9] := by
  match l, h with
  | [c0, c1, c2, c3, c4, c5, c6, c7, c8, c9], _ => exact ⟨c0, c1, c2, c3, c4, c5, c6, c7, c8, c9, rfl⟩
set_option maxRecDepth 100000 in
theorem op_cells {H : Type} {enc : TypeId × Value → H} {w : World} {base : Nat} {spare : Nat → Bool} {held : Bool} {fuel : Nat} {cs : List Value} {x : DataW H × List MemPlace} (hf : DataW.trod enc Tryd.prog w base spare held fuel 35 cs = some x) : ∃ q : To, cs = q.row.toList ∧ q.Ok := by
  have hc : Tryd.prog.cellsOf 35 = 10 := by kernel_rfl
  have hcc : Tryd.prog.cellsOf 33 = 7 := by kernel_rfl
  have ci : Tryd.prog.cellsOf 3 = 1 := by kernel_rfl
  have cu : Tryd.prog.cellsOf 23 = 1 := by kernel_rfl
  obtain ⟨xs, n, _, _, hsz, hlen, hx⟩ := DataW.trod_struct Tryd.underlying35 hf
  obtain ⟨c0, c1, c2, c3, c4, c5, c6, c7, c8, c9, rfl⟩ := list10 (hsz.trans hc)
  have hsome : ∀ i, i < 4 → ∃ y, xs[i]? = some y := fun i hi => ⟨xs[i]'(by rw [hlen]; exact hi), by simp⟩
  obtain ⟨y0, q0⟩ := hsome 0 (by omega)
  obtain ⟨y1, q1⟩ := hsome 1 (by omega)
  obtain ⟨y2, q2⟩ := hsome 2 (by omega)
  obtain ⟨y3, q3⟩ := hsome 3 (by omega)
  have h0 := (hx 0 _ rfl).trans q0
  have h1 := (hx 1 _ rfl).trans q1
  have h2 := (hx 2 _ rfl).trans q2
  have h3 := (hx 3 _ rfl).trans q3
  obtain ⟨xs', n', _, _, _, hlen', hx'⟩ := DataW.trod_struct Tryd.underlying33 h3
  have hsome' : ∀ i, i < 7 → ∃ y, xs'[i]? = some y := fun i hi => ⟨xs'[i]'(by rw [hlen']; exact hi), by simp⟩
  obtain ⟨z0, s0⟩ := hsome' 0 (by omega)
  obtain ⟨z1, s1⟩ := hsome' 1 (by omega)
  obtain ⟨z2, s2⟩ := hsome' 2 (by omega)
  obtain ⟨z3, s3⟩ := hsome' 3 (by omega)
  obtain ⟨z4, s4⟩ := hsome' 4 (by omega)
  obtain ⟨z5, s5⟩ := hsome' 5 (by omega)
  obtain ⟨z6, s6⟩ := hsome' 6 (by omega)
  have g0 := (hx' 0 _ rfl).trans s0
  have g1 := (hx' 1 _ rfl).trans s1
  have g2 := (hx' 2 _ rfl).trans s2
  have g3 := (hx' 3 _ rfl).trans s3
  have g4 := (hx' 4 _ rfl).trans s4
  have g5 := (hx' 5 _ rfl).trans s5
  have g6 := (hx' 6 _ rfl).trans s6
  obtain ⟨kd, e0, _, _⟩ := DataW.trod_int Tryd.underlying3 h0
  obtain ⟨A, e1, _, wA⟩ := DataW.trod_int Tryd.underlying23 h1
  obtain ⟨B, e2, _, wB⟩ := DataW.trod_int Tryd.underlying23 h2
  obtain ⟨k, e3, _, _⟩ := DataW.trod_int Tryd.underlying3 g0
  obtain ⟨a, e4, _, wa⟩ := DataW.trod_int Tryd.underlying23 g1
  obtain ⟨b, e5, _, _⟩ := DataW.trod_int Tryd.underlying3 g2
  obtain ⟨ri, e6, _, _⟩ := DataW.trod_int Tryd.underlying3 g3
  obtain ⟨g, e7, _, _⟩ := DataW.trod_int Tryd.underlying3 g4
  obtain ⟨s, e8, _, _⟩ := DataW.trod_int Tryd.underlying3 g5
  obtain ⟨m, e9, _, wm⟩ := DataW.trod_int Tryd.underlying23 g6
  simp [ci, cu, hcc] at e0 e1 e2 e3 e4 e5 e6 e7 e8 e9
  subst e0 e1 e2 e3 e4 e5 e6 e7 e8 e9
  obtain ⟨A, rfl⟩ := Int.eq_ofNat_of_zero_le (bounds_u64 wA).1
  obtain ⟨B, rfl⟩ := Int.eq_ofNat_of_zero_le (bounds_u64 wB).1
  obtain ⟨a, rfl⟩ := Int.eq_ofNat_of_zero_le (bounds_u64 wa).1
  obtain ⟨m, rfl⟩ := Int.eq_ofNat_of_zero_le (bounds_u64 wm).1
  exact ⟨⟨kd, A, B, ⟨k, a, b, ri, g, s, m⟩⟩, rfl, by have := (bounds_u64 wA).2; show A < _; omega, by have := (bounds_u64 wB).2; show B < _; omega, by have := (bounds_u64 wa).2; show a < _; omega, by have := (bounds_u64 wm).2; show m < _; omega⟩
set_option maxRecDepth 100000 in
theorem open_ops {H : Type} {enc : TypeId × Value → H} {W : World} {base : Nat} {v : Value} {d : DataW H} {p : List MemPlace} (hok : Value.okWide Tryd.prog W .any base 22 v)
    (h : DataW.Trod enc Tryd.prog W 0 (fun _ => true) true 22 v d p) : ∃ ad cap, ∃ l : List To, v = .slice ad l.length cap ∧ l.length ≤ maxLen ∧ ToRd W ad l ∧ ∀ q ∈ l, q.Ok := by
  obtain ⟨ad, n, cap, rfl, hn, hel⟩ := open_elems (c := 10) Tryd.underlying22 (by kernel_rfl) (by decide) hok h
  have each : ∀ i, ∃ q : To, q.Ok ∧ (i < n → ∃ g o, ad = some ⟨g, o, none⟩ ∧ g < W.heap.size ∧ ∀ j u, q.row.toList[j]? = some u → W.cell? ⟨g, o + i * 10 + j, none⟩ = some u) := fun i => by
    by_cases hi : i < n
    · obtain ⟨g, o, cs, fuel, x, e1, hg, hc, ht⟩ := hel i hi
      obtain ⟨q, rfl, he⟩ := op_cells ht
      exact ⟨q, he, fun _ => ⟨g, o, e1, hg, hc⟩⟩
    · exact ⟨to0, ⟨by decide, by decide, by decide, by decide⟩, fun h => absurd h hi⟩
  obtain ⟨f, hf⟩ : ∃ f : Nat → To, ∀ i, (f i).Ok ∧ (i < n → ∃ g o, ad = some ⟨g, o, none⟩ ∧ g < W.heap.size ∧ ∀ j u, (f i).row.toList[j]? = some u → W.cell? ⟨g, o + i * 10 + j, none⟩ = some u) := ⟨fun i => (each i).choose, fun i => (each i).choose_spec⟩
  have hl : ((List.range n).map f).length = n := by simp
  refine ⟨ad, cap, (List.range n).map f, by rw [hl], by rw [hl]; exact hn, fun i hi => ?_, fun e he => ?_⟩
  · have hi' : i < n := by rw [← hl]; exact hi
    have e1 : gT ((List.range n).map f) i = f i := by rw [gT_pos _ i hi]; simp
    rw [e1]
    exact (hf i).2 hi'
  · obtain ⟨i, _, rfl⟩ := List.mem_map.1 he
    exact (hf i).1
end TE
end Go.Proofs.YtcmndefjmhcbhaaDoor

/- Steps of a play, as steps of a list. -/
set_option linter.unusedVariables false
namespace Go.Proofs.YtcmndefjmhcbhaaDoor
open Go.RowKit
namespace TE

theorem ps_nil : ps [] = [] := rfl
theorem mem_cons' {y : Nat} {n : Nd} {L : List Nd} : y ∈ ps (n :: L) ↔ y = n.p ∨ y ∈ ps L := by rw [ps_cons, List.mem_cons]
/-- Which slots a step leaves, and how many. -/
theorem insA_in {y z w : Nat} {c : Cp} {L : List Nd} (h : w ∈ ps (insA y z c L)) : w ∈ ps L ∨ w = z := by
  induction L with
  | nil => cases h
  | cons m L ih =>
    have e : insA y z c (m :: L) = if m.p = y then m :: ⟨z, c, m.d + 1⟩ :: L else m :: insA y z c L := rfl
    rw [e] at h
    rw [mem_cons']
    by_cases hm : m.p = y
    · rw [if_pos hm, mem_cons', mem_cons'] at h
      rcases h with h | h | h
      · exact Or.inl (Or.inl h)
      · exact Or.inr h
      · exact Or.inl (Or.inr h)
    · rw [if_neg hm, mem_cons'] at h
      rcases h with h | h
      · exact Or.inl (Or.inl h)
      · rcases ih h with h | h
        · exact Or.inl (Or.inr h)
        · exact Or.inr h
theorem insA_len (y z : Nat) (c : Cp) (L : List Nd) : (insA y z c L).length ≤ L.length + 1 := by
  induction L with
  | nil => exact Nat.zero_le _
  | cons m L ih =>
    have e : insA y z c (m :: L) = if m.p = y then m :: ⟨z, c, m.d + 1⟩ :: L else m :: insA y z c L := rfl
    rw [e]
    by_cases hm : m.p = y
    · rw [if_pos hm]; simp only [List.length_cons]; omega
    · rw [if_neg hm]; simp only [List.length_cons]; omega
theorem setL_len (y : Nat) (c : Cp) (L : List Nd) : (setL y c L).length = L.length := List.length_map ..
theorem movL_len (y z : Nat) (L : List Nd) : (movL y z L).length = L.length := List.length_map ..
theorem swpL_len (y z : Nat) (L : List Nd) : (swpL y z L).length = L.length := List.length_map ..
theorem lowL_len (d : Nat) (L : List Nd) : (lowL d L).length = L.length := by
  induction L with
  | nil => rfl
  | cons m L ih =>
    show (if d < m.d then { m with d := m.d - 1 } :: lowL d L else m :: L).length = _
    by_cases c : d < m.d
    · rw [if_pos c, List.length_cons, ih]; rfl
    · rw [if_neg c]
theorem remL_len (y : Nat) (L : List Nd) : (remL y L).length ≤ L.length := by
  induction L with
  | nil => exact Nat.le_refl _
  | cons m L ih =>
    show (if m.p = y then lowL m.d L else m :: remL y L).length ≤ _
    by_cases c : m.p = y
    · rw [if_pos c, lowL_len]; simp only [List.length_cons]; omega
    · rw [if_neg c]; simp only [List.length_cons]; omega
theorem remL_len2 {y : Nat} {L : List Nd} (h : y ∈ ps L) : (remL y L).length + 1 = L.length := by
  obtain ⟨A, n, B, rfl, rfl, h3⟩ := part_at h
  rw [remL_at h3]; simp only [List.length_append, List.length_cons, lowL_len]; omega
theorem lowL_ps (d : Nat) (L : List Nd) : ps (lowL d L) = ps L := by
  induction L with
  | nil => rfl
  | cons m L ih =>
    show ps (if d < m.d then { m with d := m.d - 1 } :: lowL d L else m :: L) = _
    by_cases c : d < m.d
    · rw [if_pos c, ps_cons, ih]; rfl
    · rw [if_neg c]
theorem remL_in {y w : Nat} {L : List Nd} (h : w ∈ ps (remL y L)) : w ∈ ps L := by
  induction L with
  | nil => exact h
  | cons m L ih =>
    have e : remL y (m :: L) = if m.p = y then lowL m.d L else m :: remL y L := rfl
    rw [e] at h
    rw [mem_cons']
    by_cases c : m.p = y
    · rw [if_pos c, lowL_ps] at h; exact Or.inr h
    · rw [if_neg c, mem_cons'] at h
      rcases h with h | h
      · exact Or.inl h
      · exact Or.inr (ih h)
theorem setL_ps (y : Nat) (c : Cp) (L : List Nd) : ps (setL y c L) = ps L := by
  unfold ps setL
  rw [List.map_map]
  refine List.map_congr_left fun n _ => ?_
  show (if n.p = y then { n with c := c } else n).p = n.p
  by_cases h : n.p = y
  · rw [if_pos h]
  · rw [if_neg h]
theorem movL_in {a b w : Nat} {L : List Nd} (h : w ∈ ps (movL a b L)) : w ∈ ps L ∨ w = b := by
  obtain ⟨n, hn, rfl⟩ := List.mem_map.1 h
  obtain ⟨m, hm, rfl⟩ := List.mem_map.1 hn
  by_cases c : m.p = a
  · rw [if_pos c]; exact Or.inr rfl
  · rw [if_neg c]; exact Or.inl (mem_psI hm)
theorem swpL_in {a b w : Nat} {L : List Nd} (h : w ∈ ps (swpL a b L)) : w ∈ ps L ∨ w = a ∨ w = b := by
  obtain ⟨n, hn, rfl⟩ := List.mem_map.1 h
  obtain ⟨m, hm, rfl⟩ := List.mem_map.1 hn
  show tn a b m.p ∈ ps L ∨ tn a b m.p = a ∨ tn a b m.p = b
  by_cases c : m.p = a
  · rw [c, tn_l]; exact Or.inr (Or.inr rfl)
  · by_cases d : m.p = b
    · rw [d, tn_r]; exact Or.inr (Or.inl rfl)
    · rw [tn_o c d]; exact Or.inl (mem_psI hm)
/-- A step: its error, and the list behind it. -/
def opE (S : Nat) (L : List Nd) (q : To) : Int :=
  if q.kd = 1 then maE S (sg 0 L 0) q.a L.length q.c.ft else if q.kd = 2 then chE S L q.a q.b q.c.ft else if q.kd = 3 then stE S L q.a q.c.ft
  else if q.kd = 4 then mvE S L q.a q.b else if q.kd = 5 then swE S L q.a q.b else if q.kd = 6 then reE S L q.a else 0
def opR (L : List Nd) (q : To) : List Nd :=
  if q.kd = 1 then ⟨q.a, q.c.cp, 0⟩ :: L else if q.kd = 2 then insA q.a q.b q.c.cp L else if q.kd = 3 then setL q.a q.c.cp L
  else if q.kd = 4 then movL q.a q.b L else if q.kd = 5 then swpL q.a q.b L else if q.kd = 6 then remL q.a L else L
def opL (S : Nat) (L : List Nd) (q : To) : List Nd := if opE S L q = 0 then opR L q else L
theorem opR_in {w : Nat} {L : List Nd} {q : To} (h : w ∈ ps (opR L q)) : w ∈ ps L ∨ w = q.a ∨ w = q.b := by
  unfold opR at h
  by_cases h1 : q.kd = 1
  · rw [if_pos h1, mem_cons'] at h
    rcases h with h | h
    · exact Or.inr (Or.inl h)
    · exact Or.inl h
  rw [if_neg h1] at h
  by_cases h2 : q.kd = 2
  · rw [if_pos h2] at h
    rcases insA_in h with h | h
    · exact Or.inl h
    · exact Or.inr (Or.inr h)
  rw [if_neg h2] at h
  by_cases h3 : q.kd = 3
  · rw [if_pos h3, setL_ps] at h; exact Or.inl h
  rw [if_neg h3] at h
  by_cases h4 : q.kd = 4
  · rw [if_pos h4] at h
    rcases movL_in h with h | h
    · exact Or.inl h
    · exact Or.inr (Or.inr h)
  rw [if_neg h4] at h
  by_cases h5 : q.kd = 5
  · rw [if_pos h5] at h; exact swpL_in h
  rw [if_neg h5] at h
  by_cases h6 : q.kd = 6
  · rw [if_pos h6] at h; exact Or.inl (remL_in h)
  rw [if_neg h6] at h
  exact Or.inl h
theorem opR_len (L : List Nd) (q : To) : (opR L q).length ≤ L.length + 1 := by
  unfold opR
  by_cases h1 : q.kd = 1
  · rw [if_pos h1, List.length_cons]; exact Nat.le_refl _
  rw [if_neg h1]
  by_cases h2 : q.kd = 2
  · rw [if_pos h2]; exact insA_len ..
  rw [if_neg h2]
  by_cases h3 : q.kd = 3
  · rw [if_pos h3, setL_len]; omega
  rw [if_neg h3]
  by_cases h4 : q.kd = 4
  · rw [if_pos h4, movL_len]; omega
  rw [if_neg h4]
  by_cases h5 : q.kd = 5
  · rw [if_pos h5, swpL_len]; omega
  rw [if_neg h5]
  by_cases h6 : q.kd = 6
  · rw [if_pos h6]; have := remL_len q.a L; omega
  rw [if_neg h6]; omega
theorem opL_in {S w : Nat} {L : List Nd} {q : To} (h : w ∈ ps (opL S L q)) : w ∈ ps L ∨ w = q.a ∨ w = q.b := by
  unfold opL at h
  by_cases e : opE S L q = 0
  · rw [if_pos e] at h; exact opR_in h
  · rw [if_neg e] at h; exact Or.inl h
theorem opL_len (S : Nat) (L : List Nd) (q : To) : (opL S L q).length ≤ L.length + 1 := by
  unfold opL
  by_cases e : opE S L q = 0
  · rw [if_pos e]; exact opR_len L q
  · rw [if_neg e]; omega
/-- No slot is more than one step deeper than the one ahead. -/
def Td : Nat → List Nd → Prop
  | _, [] => True
  | k, n :: L => n.d ≤ k ∧ Td (n.d + 1) L
theorem Td.mono {k j : Nat} {L : List Nd} (h : Td k L) (hk : k ≤ j) : Td j L := by
  cases L with
  | nil => trivial
  | cons n L => exact ⟨Nat.le_trans h.1 hk, h.2⟩
theorem Td.low {d j : Nat} {L : List Nd} (h : Td (j + 1) L) (hd : d ≤ j) : Td j (lowL d L) := by
  induction L generalizing j with
  | nil => trivial
  | cons m L ih =>
    obtain ⟨h1, h2⟩ := h
    show Td j (if d < m.d then { m with d := m.d - 1 } :: lowL d L else m :: L)
    by_cases c : d < m.d
    · rw [if_pos c]
      refine ⟨by show m.d - 1 ≤ j; omega, ?_⟩
      show Td (m.d - 1 + 1) (lowL d L)
      rw [show m.d - 1 + 1 = m.d by omega]
      exact ih h2 (by omega)
    · rw [if_neg c]; exact ⟨by omega, h2⟩
theorem Td.insA {k y z : Nat} {c : Cp} {L : List Nd} (h : Td k L) : Td k (insA y z c L) := by
  induction L generalizing k with
  | nil => trivial
  | cons m L ih =>
    obtain ⟨h1, h2⟩ := h
    show Td k (if m.p = y then m :: ⟨z, c, m.d + 1⟩ :: L else m :: TE.insA y z c L)
    by_cases e : m.p = y
    · rw [if_pos e]; exact ⟨h1, Nat.le_refl _, h2.mono (Nat.le_succ _)⟩
    · rw [if_neg e]; exact ⟨h1, ih h2⟩
theorem Td.map {k : Nat} {L : List Nd} {f : Nd → Nd} (h : Td k L) (hf : ∀ n, (f n).d = n.d) : Td k (L.map f) := by
  induction L generalizing k with
  | nil => trivial
  | cons m L ih =>
    rw [List.map_cons]
    exact ⟨by rw [hf]; exact h.1, by rw [hf]; exact ih h.2⟩
theorem Td.rem {k y : Nat} {L : List Nd} (h : Td k L) : Td k (remL y L) := by
  induction L generalizing k with
  | nil => trivial
  | cons m L ih =>
    obtain ⟨h1, h2⟩ := h
    show Td k (if m.p = y then lowL m.d L else m :: remL y L)
    by_cases e : m.p = y
    · rw [if_pos e]; exact (Td.low h2 (Nat.le_refl _)).mono h1
    · rw [if_neg e]; exact ⟨h1, ih h2⟩
theorem Td.opL {S : Nat} {L : List Nd} {q : To} (h : Td 0 L) : Td 0 (TE.opL S L q) := by
  unfold TE.opL
  by_cases e : opE S L q = 0
  · rw [if_pos e]
    unfold opR
    by_cases h1 : q.kd = 1
    · rw [if_pos h1]; exact ⟨Nat.le_refl _, h.mono (Nat.zero_le _)⟩
    rw [if_neg h1]
    by_cases h2 : q.kd = 2
    · rw [if_pos h2]; exact h.insA
    rw [if_neg h2]
    by_cases h3 : q.kd = 3
    · rw [if_pos h3]; exact h.map fun n => by by_cases c : n.p = q.a; rw [if_pos c]; rw [if_neg c]
    rw [if_neg h3]
    by_cases h4 : q.kd = 4
    · rw [if_pos h4]; exact h.map fun n => by by_cases c : n.p = q.a; rw [if_pos c]; rw [if_neg c]
    rw [if_neg h4]
    by_cases h5 : q.kd = 5
    · rw [if_pos h5]; exact h.map fun n => rfl
    rw [if_neg h5]
    by_cases h6 : q.kd = 6
    · rw [if_pos h6]; exact h.rem
    rw [if_neg h6]; exact h
  · rw [if_neg e]; exact h
theorem Td.split {k : Nat} {A B : List Nd} {n : Nd} (h : Td k (A ++ n :: B)) : Td (n.d + 1) B := by
  induction A generalizing k with
  | nil => exact h.2
  | cons m A ih => exact ih h.2
theorem belL_nil {d : Nat} {L : List Nd} (h : Td d L) : belL d L = [] := by
  cases L with
  | nil => rfl
  | cons m L => show (if d < m.d then m :: belL d L else []) = []; rw [if_neg (by have := h.1; omega)]
end TE
end Go.Proofs.YtcmndefjmhcbhaaDoor

set_option linter.unusedVariables false
namespace Go.Proofs.YtcmndefjmhcbhaaDoor
open Go.RowKit
namespace TE

/-- What a step Child that is done leaves. -/
theorem ch_ok {S : Nat} {L : List Nd} {p y : Nat} {f : Bool} (hW : Wf S L) (h : chE S L p y f = 0) : ∃ A t B, L = A ++ t :: B ∧ t.p = p ∧ p ∉ ps A ∧ y ∉ ps L ∧ L.length < 65536 := by
  unfold chE at h
  by_cases hp : p ∈ ps L
  · obtain ⟨A, t, B, rfl, rfl, hA⟩ := part_at hp
    rw [fnd_at hA] at h
    dsimp only at h
    by_cases hE : maE S (sg 0 (A ++ t :: B) 0) y (A ++ t :: B).length f = 0
    · obtain ⟨-, -, e3, -, e5⟩ := ma_ok hW hE
      exact ⟨A, t, B, rfl, rfl, hA, e3, e5⟩
    · rw [if_neg hE] at h; exact absurd h hE
  · rw [fnd_none hp] at h; exact absurd h he_ne
theorem mv_ok {S : Nat} {A B : List Nd} {t : Nd} {y : Nat} (hA : t.p ∉ ps A) (h : mvE S (A ++ t :: B) t.p y = 0) : y ∉ ps (A ++ t :: B) := by
  unfold mvE at h
  rw [fnd_at hA] at h
  exact (fr_ok h).2.2
/-- A slot, and the one derived from it just now. -/
structure Kid (L : List Nd) (a b d k : Nat) (l : List Nat) : Prop where
  ha : ∃ s, sg 0 L 0 a = some s ∧ s.d = d
  hb : ∃ s, sg 0 L 0 b = some s ∧ s.d = d + 1
  len : L.length = k + 1
  bel : ps (undL a L) = b :: l
  ain : a ∈ ps L
  rem : (remL a L).length = k ∧ ∃ s, sg 0 (remL a L) 0 b = some s ∧ s.d = d
theorem kid_of {A B : List Nd} {t m : Nd} (hn : (ps (A ++ t :: m :: B)).Nodup) (hm : m.d = t.d + 1) : Kid (A ++ t :: m :: B) t.p m.p t.d (A.length + 1 + B.length) (ps (belL t.d B)) := by
  obtain ⟨nA, nX, dj⟩ := nd_app hn
  have hA : t.p ∉ ps A := fun c => dj _ c (by rw [ps_cons]; simp)
  have eL : (A ++ [t]) ++ m :: B = A ++ t :: m :: B := by simp
  have hs := sg_at (A := A ++ [t]) (B := B) (n := m) (by rw [eL]; exact hn)
  rw [eL] at hs
  have nB := (List.nodup_cons.1 nX).2
  have hu : undL t.p (A ++ t :: m :: B) = m :: belL t.d B := by
    rw [undL_at hA]
    show (if t.d < m.d then m :: belL t.d B else []) = _
    rw [if_pos (by omega)]
  have hr : remL t.p (A ++ t :: m :: B) = A ++ { m with d := m.d - 1 } :: lowL t.d B := by
    rw [remL_at hA]
    show A ++ (if t.d < m.d then { m with d := m.d - 1 } :: lowL t.d B else m :: B) = _
    rw [if_pos (by omega)]
  refine ⟨⟨_, sg_at hn, rfl⟩, ⟨_, hs, hm⟩, by simp only [List.length_append, List.length_cons]; omega, by rw [hu]; rfl, by rw [ps_mid]; simp, ?_⟩
  rw [hr]
  refine ⟨by simp only [List.length_append, List.length_cons, lowL_len]; omega, ?_⟩
  have hn2 : (ps (A ++ { m with d := m.d - 1 } :: lowL t.d B)).Nodup := by
    rw [ps_app, ps_cons, lowL_ps]
    rw [ps_app, ps_cons, ps_cons, List.nodup_append] at hn
    rw [List.nodup_append]
    refine ⟨nA, nB, fun a ha b hb => hn.2.2 a ha b (List.mem_cons_of_mem _ hb)⟩
  refine ⟨_, sg_at (n := { m with d := m.d - 1 }) hn2, ?_⟩
  show m.d - 1 = t.d
  omega
theorem kid_bare {A B : List Nd} {t m : Nd} (hn : (ps (A ++ t :: m :: B)).Nodup) (hm : m.d = t.d + 1) (hT : Td (t.d + 1) B) : undL m.p (A ++ t :: m :: B) = [] := by
  have eL : (A ++ [t]) ++ m :: B = A ++ t :: m :: B := by simp
  obtain ⟨nA, nX, dj⟩ := nd_app (A := A ++ [t]) (B := m :: B) (by rw [eL]; exact hn)
  have hA : m.p ∉ ps (A ++ [t]) := fun c => dj _ c (by rw [ps_cons]; simp)
  have := undL_at (A := A ++ [t]) (B := B) (n := m) hA
  rw [eL] at this
  rw [this, hm]
  exact belL_nil hT
end TE
end Go.Proofs.YtcmndefjmhcbhaaDoor
