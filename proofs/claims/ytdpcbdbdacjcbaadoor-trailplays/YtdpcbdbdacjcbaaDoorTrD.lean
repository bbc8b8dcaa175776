/- Rows of entries, third part: the walk of IndexFunc. -/
import Derived.Test.YtdpcbdbdacjcbaaDoorTrC
namespace Go.Proofs.YtdpcbdbdacjcbaaDoor.TR
open Go.RowKit

/-- None of the first n is such; the one at k is. -/
def NoP (p : En → Bool) (l : List En) (n : Nat) : Prop := ∀ j, j < n → p (gE l j) = false
def IsP (p : En → Bool) (l : List En) (k : Nat) : Prop := p (gE l k) = true

set_option maxHeartbeats 4000000 in
set_option maxRecDepth 100000 in
theorem indexFunc_c (q : Nat) (lb : Array Value) (eg : ∀ args w, (callFunc q args).run Tryd.prog w = .ok (.enter q args) w) (p : En → Bool) (l : List En) (ad : Option Addr) (cap : Nat) (w : World) (hn : l.length ≤ 1000) (hr : RdA w ad l)
    (hp : ∀ W e, e ∈ l → Below w.heap.size w W → Calls Tryd.prog q (#[e.v] ++ lb) W fun r w' => r = .returned (.bool (p e)) ∧ Below W.heap.size W w') :
    Calls Tryd.prog 75 #[.slice ad l.length cap, .func (.func q) #[] lb] w fun r w' => ((r = .returned (.int .i64 (-1)) ∧ NoP p l l.length) ∨ ∃ k : Nat, k < l.length ∧ r = .returned (.int .i64 (k : Nat)) ∧ IsP p l k ∧ NoP p l k) ∧ Below w.heap.size w w' := by
  have HR := Hid.mk hr
  have HP := Hid.mk hp
  have hnI : (l.length : Int) ≤ 1000 := by omega
  clear hr hn hp
  go_enter Tryd.func75, Tryd.ntmps75
  go_wp2
  go_loopw [5, 8] (fun _ s8 wr => ∃ i : Nat, i ≤ l.length ∧ s8 = .int .i64 (i : Nat) ∧ Below w.heap.size w wr ∧ NoP p l i) (fun _ s8 _ => l.length - (RowKit.intOf s8).toNat)
  case atStart => exact ⟨0, by omega, rfl, Below.refl _ _, fun j hj => absurd hj (Nat.not_lt_zero _)⟩
  case round =>
    obtain ⟨i, hi, rfl, hb, hno⟩ := hrel
    have HB := Hid.mk hb
    have HNO := Hid.mk hno
    clear hno
    by_cases hlt : i < l.length
    · have hlt2 : (i : Int) < l.length := by omega
      have HLT := Hid.mk hlt
      have hib : (i : Int) < 1000 := by omega
      obtain ⟨g, o, rfl, hg, hc⟩ := HR.out i hlt
      have d0 := cell_later hb (hc 0 _ rfl)
      have d1 := cell_later hb (hc 1 _ rfl)
      have d2 := cell_later hb (hc 2 _ rfl)
      have d3 := cell_later hb (hc 3 _ rfl)
      rw [Nat.add_zero] at d0
      have hcall := HP.out wr (gE l i) (gE_mem l i hlt) hb
      clear hc hb hi hlt
      cases hpy : p (gE l i)
      · have HX : Hid (NoP p l (i + 1)) := fun j hj => by
          by_cases h : j = i
          · subst h; exact hpy
          · exact HNO.out j (by omega)
        rw [hpy] at hcall
        clear hpy
        generalize (gE l i) = y at *
        obtain ⟨b0, b1, b2, b3⟩ := y
        simp only [En.v] at *
        go_wp2_with fail
        refine hcall.mono ?_
        rintro e w' ⟨rfl, hb'⟩
        clear hcall
        go_wp2
        exact ⟨⟨i + 1, by have := HLT.out; omega, by go_num, below_tr HB.out hb', HX.out⟩, by have := HLT.out; simp [RowKit.intOf]; omega⟩
      · have HX : Hid (p (gE l i) = true) := hpy
        rw [hpy] at hcall
        clear hpy
        have HY : Hid (∃ k : Nat, k < l.length ∧ k = i ∧ IsP p l k ∧ NoP p l k) := ⟨i, HLT.out, rfl, HX.out, HNO.out⟩
        generalize (gE l i) = y at *
        obtain ⟨b0, b1, b2, b3⟩ := y
        simp only [En.v] at *
        go_wp2_with fail
        refine hcall.mono ?_
        rintro e w' ⟨rfl, hb'⟩
        clear hcall
        go_wp2
        go_ret
        obtain ⟨k, h1, rfl, h2, h3⟩ := HY.out
        exact ⟨Or.inr ⟨k, h1, rfl, h2, h3⟩, below_tr HB.out hb'⟩
    · have hlt2 : ¬ (i : Int) < l.length := by omega
      have HX : Hid (NoP p l l.length) := fun j hj => HNO.out j (by omega)
      clear hb hi hlt
      go_wp2
      go_ret
      exact ⟨Or.inl ⟨rfl, HX.out⟩, HB.out⟩

end Go.Proofs.YtdpcbdbdacjcbaaDoor.TR
