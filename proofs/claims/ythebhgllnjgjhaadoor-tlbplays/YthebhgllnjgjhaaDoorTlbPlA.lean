/- TlbPlays, first part: the steps that come in; a step of whatever kind. -/
import Derived.Test.YthebhgllnjgjhaaDoorTlbY2
import Derived.Test.YthebhgllnjgjhaaDoorTlbY3
import Derived.Test.YthebhgllnjgjhaaDoorTlbY4
import Derived.Test.YthebhgllnjgjhaaDoorTlbY6
import Derived.Test.YthebhgllnjgjhaaDoorTlbY7
import Derived.Test.YthebhgllnjgjhaaDoorTlbFrame
namespace Go.Proofs.YthebhgllnjgjhaaDoor.tlbPlays
open Go.ChangeShapes Go.WideShapes Go.ChangeAt Go.RowKit Go.Lib

/-- A step: its kind, its number, its entry. -/
abbrev St := Int × Int × En
def St.cs (q : St) : List Value := .int .i64 q.1 :: .int .i64 q.2.1 :: q.2.2.cs
def gO (l : List St) (i : Nat) : St := l.getD i (0, 0, e0)
theorem gO_pos (l : List St) (i : Nat) (h : i < l.length) : gO l i = l[i] := by
  unfold gO
  rw [List.getD_eq_getElem?_getD, List.getElem?_eq_getElem h]; rfl
def OpsRd (w : World) (ad : Option Addr) (l : List St) : Prop :=
  ∀ i, i < l.length → ∃ g o, ad = some ⟨g, o, none⟩ ∧ g < w.heap.size ∧ ∀ j u, (St.cs (gO l i))[j]? = some u → w.cell? ⟨g, o + i * 12 + j, none⟩ = some u

theorem list12 {α : Type} {l : List α} (h : l.length = 12) : ∃ c0 c1 r, l = c0 :: c1 :: r ∧ r.length = 10 := by
  match l, h with
  | c0 :: c1 :: r, h => exact ⟨c0, c1, r, rfl, by simpa using h⟩
set_option maxRecDepth 100000 in
theorem op_cells {H : Type} {enc : TypeId × Value → H} {w : World} {base : Nat} {spare : Nat → Bool} {held : Bool} {fuel : Nat} {cs : List Value} {x : DataW H × List MemPlace} (hf : DataW.trod enc Tryd.prog w base spare held fuel 35 cs = some x) : ∃ q : St, cs = St.cs q ∧ q.2.2.ok := by
  have hc : Tryd.prog.cellsOf 35 = 12 := by kernel_rfl
  have ci : Tryd.prog.cellsOf 3 = 1 := by kernel_rfl
  have cd : Tryd.prog.cellsOf 33 = 10 := by kernel_rfl
  obtain ⟨xs, n, _, _, hsz, hlen, hx⟩ := DataW.trod_struct Tryd.underlying35 hf
  obtain ⟨c0, c1, r, rfl, hr⟩ := list12 (hsz.trans hc)
  have hsome : ∀ i, i < 3 → ∃ y, xs[i]? = some y := fun i hi => ⟨xs[i]'(by rw [hlen]; exact hi), by simp⟩
  obtain ⟨y0, q0⟩ := hsome 0 (by omega)
  obtain ⟨y1, q1⟩ := hsome 1 (by omega)
  obtain ⟨y2, q2⟩ := hsome 2 (by omega)
  have h0 := (hx 0 _ rfl).trans q0
  have h1 := (hx 1 _ rfl).trans q1
  have h2 := (hx 2 _ rfl).trans q2
  obtain ⟨z0, e0, _, _⟩ := DataW.trod_int Tryd.underlying3 h0
  obtain ⟨z1, e1, _, _⟩ := DataW.trod_int Tryd.underlying3 h1
  obtain ⟨e, e2, he⟩ := entry_cells h2
  simp [ci] at e0 e1
  have e3 : r = e.cs := by
    have h3 : r.take (Tryd.prog.cellsOf 33) = e.cs := e2
    rw [cd, List.take_of_length_le (by omega)] at h3
    exact h3
  subst e0 e1
  exact ⟨(z0, z1, e), by rw [e3]; rfl, he⟩

theorem open_ops {H : Type} {enc : TypeId × Value → H} {W : World} {base : Nat} {v : Value} {d : DataW H} {p : List MemPlace} (hok : Value.okWide Tryd.prog W .any base 22 v)
    (h : DataW.Trod enc Tryd.prog W 0 (fun _ => true) true 22 v d p) : ∃ ad cap, ∃ l : List St, v = .slice ad l.length cap ∧ l.length ≤ maxLen ∧ OpsRd W ad l ∧ ∀ q ∈ l, q.2.2.ok := by
  obtain ⟨ad, n, cap, rfl, hn, hel⟩ := open_elems (c := 12) Tryd.underlying22 (by kernel_rfl) (by decide) hok h
  have each : ∀ i, ∃ q : St, q.2.2.ok ∧ (i < n → ∃ g o, ad = some ⟨g, o, none⟩ ∧ g < W.heap.size ∧ ∀ j u, (St.cs q)[j]? = some u → W.cell? ⟨g, o + i * 12 + j, none⟩ = some u) := fun i => by
    by_cases hi : i < n
    · obtain ⟨g, o, cs, fuel, x, e1, hg, hc, ht⟩ := hel i hi
      obtain ⟨q, rfl, he⟩ := op_cells ht
      exact ⟨q, he, fun _ => ⟨g, o, e1, hg, hc⟩⟩
    · exact ⟨(0, 0, e0), e0_ok, fun h => absurd h hi⟩
  obtain ⟨f, hf⟩ := Classical.axiomOfChoice each
  have hl : ((List.range n).map f).length = n := by simp
  refine ⟨ad, cap, (List.range n).map f, by rw [hl], by rw [hl]; exact hn, fun i hi => ?_, fun e he => ?_⟩
  · have hi' : i < n := by rw [← hl]; exact hi
    have e1 : (gO ((List.range n).map f) i) = f i := by rw [gO_pos _ i hi]; simp
    rw [e1]
    exact (hf i).2 hi'
  · obtain ⟨i, _, rfl⟩ := List.mem_map.1 he
    exact (hf i).1

theorem step_any {w0 w : World} {t : Nat} {most : Int} {l : List En} {ad : Option Addr} {cap : Nat} (h : PInv w0 w t most l ad cap) (hm : 1 ≤ most) (hm2 : most ≤ 64) (hF : Flds w0) (kd nn : Int) (e : En) (he : e.ok) :
    Calls Tryd.prog 9 #[.pointer (some ⟨t, 0, none⟩), .int .i64 most, .slice ad l.length cap, .agg #[.int .i64 kd, .int .i64 nn, .int .i64 e.aid, .int .u64 e.va, .int .i64 e.lv, .int .i64 e.k, .int .u64 e.o, .bool e.u, .bool e.r, .bool e.x, .bool e.s, .int .i64 e.a]] w fun r w' => ∃ l' ad' cap', r = .returned (.tuple #[.slice ad' l'.length cap', .bool true]) ∧ PInv w0 w' t most l' ad' cap' := by
  by_cases h1 : kd = 1
  · subst h1; exact step_1 h hm hm2 hF e he nn
  by_cases h2 : kd = 2
  · subst h2; exact step_2 h hm hm2 hF e he nn
  by_cases h3 : kd = 3
  · subst h3
    by_cases hN : nn < 0 ∨ (l.length : Int) ≤ nn
    · exact step_3n h hm hm2 hF e he nn hN
    · obtain ⟨n, rfl⟩ := Int.eq_ofNat_of_zero_le (show 0 ≤ nn by omega)
      exact step_3 h hm hm2 hF e he n (by omega)
  by_cases h4 : kd = 4
  · subst h4; exact step_4 h hm hm2 hF e he nn
  by_cases h5 : kd = 5
  · subst h5
    by_cases h0 : 0 ≤ e.aid
    · exact step_5 h hm hm2 hF e he nn h0
    · exact step_5n h hm hm2 hF e he nn (by omega)
  by_cases h6 : kd = 6
  · subst h6; exact step_6 h hm hm2 hF e he nn
  exact step_0 h hm hm2 hF e he nn kd (by omega)

end Go.Proofs.YthebhgllnjgjhaaDoor.tlbPlays
