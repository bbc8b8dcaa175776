/- The document's Chars and Count, over chars; a slice of characters in memory. -/
import Derived.Test.YtbpahdgkedfmdaaDoorRefChars
import Derived.Test.YtbpahdgkedfmdaaDoorRefValue
namespace Go.Proofs.YtbpahdgkedfmdaaDoor
open Go.RowKit Go.Lib

theorem rchars_any (s : ByteArray) (w : World) (hs : s.size ≤ 1048576) :
    Calls Tryd.prog 15 #[.string s] w fun e w' => ∃ v, e = .returned v ∧ w'.ownsRow w.heap.size 3 1 v (charsOf s.data.toList).length (intCells (charsOf s.data.toList)) ∧ Below w.heap.size w w' := by
  have cC := chars_any s w hs
  cases hv : validD s.data.toList
  · have e : charsOf s.data.toList = [] := by unfold charsOf; rw [hv]; rfl
    rw [e] at cC ⊢
    rw [hv] at cC
    clear hv e
    go_enter Tryd.func15, Tryd.ntmps15
    go_wp2_with fail
    refine cC.mono ?_
    rintro e w1 ⟨v, rfl, hown, hb⟩
    go_wp2
    go_ret
    exact ⟨_, rfl, World.ownsRow_nil _ _ _ _, hb⟩
  · rw [hv] at cC
    generalize charsOf s.data.toList = rs at *
    clear hv
    go_enter Tryd.func15, Tryd.ntmps15
    go_wp2_with fail
    refine cC.mono ?_
    rintro e w1 ⟨v, rfl, hown, hb⟩
    go_wp2
    go_ret
    exact ⟨v, rfl, hown, hb⟩

theorem int_form {w : World} {base : Nat} {v : Value} {rs : List Nat} (h : w.ownsRow base 3 1 v rs.length (intCells rs)) :
    ∃ ao cap, v = .slice ao rs.length cap ∧ rs.length ≤ cap ∧ (0 < rs.length → ∃ g, ao = some ⟨g, 0, none⟩ ∧ ∀ i (hi : i < rs.length), w.cell? ⟨g, 0 + i, none⟩ = some (.int .i64 (rs[i] : Nat))) := by
  rcases h.2 with ⟨h1, h2⟩ | ⟨g, cap, cur, h1, h2, h3, h4, _⟩
  · exact ⟨none, 0, by rw [h1, h2], by omega, fun k => by omega⟩
  · have hb : v.ownBlock = some g := by rw [h1]; rfl
    refine ⟨_, cap, h1, h4, fun _ => ⟨g, rfl, fun i hi => ?_⟩⟩
    have := h.cells hb i (.int .i64 (rs[i] : Nat)) (by simp [intCells, List.getElem?_eq_getElem hi])
    have hadd : (⟨g, 0, none⟩ : Addr).add i = ⟨g, 0 + i, none⟩ := by unfold Addr.add; split <;> simp_all
    rwa [hadd] at this

theorem charsOf_le (l : List UInt8) : ∀ z ∈ charsOf l, z ≤ 1114111 := by
  unfold charsOf
  split
  · intro z hz
    obtain ⟨c, hc, rfl⟩ := List.mem_map.1 hz
    exact chs_le l c hc
  · intro z hz; cases hz
theorem charsOf_len (l : List UInt8) : (charsOf l).length ≤ l.length := by
  unfold charsOf
  split
  · rw [List.length_map]; exact chs_len_le l
  · simp

theorem cell_later' {W w1 : World} (hb : Below W.heap.size W w1) {a : Addr} {x : Value} (h : W.cell? a = some x) : w1.cell? a = some x := by
  rw [hb.cell (World.block_lt_of_cell? W a h), h]
/-- The document's Value of what Chars left. -/
theorem rvalue_own (rs : List Nat) (v : Value) (base : Nat) (w : World) (hsz : rs.length ≤ 1000000) (hz : ∀ z ∈ rs, z ≤ 1114111) (h : w.ownsRow base 3 1 v rs.length (intCells rs)) :
    Calls Tryd.prog 14 #[v] w fun e w' => e = .returned (.tuple #[.int .u64 (valW rs), .int .i64 (valE rs)]) ∧ w = w' := by
  obtain ⟨ao, cap, rfl, hcap, hc⟩ := int_form h
  by_cases h0 : 0 < rs.length
  · obtain ⟨g, rfl, hcell⟩ := hc h0
    exact rvalue_pos rs g 0 cap w h0 hcap hsz hz hcell
  · have e : rs = [] := List.eq_nil_of_length_eq_zero (by omega)
    subst e
    exact rvalue_none ao cap w

/-- An untold text is no number in either way. -/
theorem val_chars (l : List UInt8) : valS ((chs l).map (·.1)) = valS (charsOf l) := by
  unfold charsOf
  cases hv : validD l
  · rw [if_neg (by simp)]
    obtain ⟨c, hc, e⟩ := invalid_bad l hv
    rw [valS_bad _ (by rw [← e]; exact List.mem_map_of_mem hc)]
    rfl
  · rw [if_pos rfl]
end Go.Proofs.YtbpahdgkedfmdaaDoor
