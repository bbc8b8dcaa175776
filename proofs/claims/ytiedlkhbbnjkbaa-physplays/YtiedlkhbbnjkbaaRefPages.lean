/- The document's Pages. -/
import Derived.Test.YtiedlkhbbnjkbaaRefRead
import Derived.Test.YtiedlkhbbnjkbaaDiffTwo
namespace Go.Proofs.Ytiedlkhbbnjkbaa
open Go.RowKit Go.Maps

/-- Between two words of the document's Pages. -/
structure PgRel (w1 wr : World) (v : Value) (ts : List Nat) : Prop where
  own : OwnW wr w1.heap.size v ts
  bel : Below w1.heap.size w1 wr
theorem PgRel.push {w1 wr w2 : World} {v v' : Value} {ts ts' : List Nat} {o : Obj} (h : PgRel w1 wr v ts) (hg : (wr.alloc o).grownBy w2 v.ownBlock) (hown : OwnW w2 w1.heap.size v' ts') : PgRel w1 w2 v' ts' := by
  have hs := h.bel.size
  exact ⟨hown, (h.bel.alloc hs o).grown hg (by simp; omega) (fun q hq => (h.own.lt q hq).1)⟩
theorem PgRel.drew {w1 wr : World} {v : Value} {ts : List Nat} (h : PgRel w1 wr v ts) : PgRel w1 wr.drew v ts := ⟨h.own.below ((Below.refl _ _).drew), h.bel.drew⟩

set_option maxRecDepth 100000 in
set_option maxHeartbeats 8000000 in
theorem rpages_c {w : World} {B : Nat → Prop} {S : Nat} {v : Value} {L : WL} {f : Nat → Nat} (hP : Psl w B v L) (hR : Ref L f) (hlen : L.length < 1000000) (hS : ∀ j, j < L.length → L[j]!.1 < 18446744073709551616) :
    Calls Try.prog 30 #[.agg #[.int .u64 (S : Nat), v]] w fun e w' => ∃ v', e = .returned v' ∧ Wsl w' w.heap.size v' (SP L L.length) ∧ Below w.heap.size w w' := by
  obtain ⟨p, cap, rfl, hc⟩ := hP.form
  have HSPEC : Hid (∀ i, i ≤ L.length → (SP L i).length ≤ i ∧ ((SP L i).length ≠ 0 ∨ i = 0)) := fun i hi => ⟨(SP_spec hR.1 i hi).2.2.1, by
    by_cases e : i = 0
    · exact Or.inr e
    · exact Or.inl (by have := ((SP_spec hR.1 i hi).2.2.2 (by omega)).1; omega)⟩
  generalize hN : L.length = N at *
  have HN := Hid.mk hN
  have HC := Hid.mk hc
  have HS := Hid.mk hS
  clear hc hP hN hR hS
  obtain ⟨w1, hw1⟩ : ∃ w1, w1 = w.alloc (.cells #[.int .u64 (S : Nat), .slice p N cap] 32) := ⟨_, rfl⟩
  have HB : Hid (Below w.heap.size w w1) := by
    show Below w.heap.size w w1
    rw [hw1]; exact (Below.refl _ _).alloc (Nat.le_refl _) _
  have hs1 : w.heap.size + 1 ≤ w1.heap.size := by rw [hw1]; simp
  have HK0 : Hid (w1.heap[w.heap.size]? = some (.cells #[.int .u64 (S : Nat), .slice p N cap] 32)) := by
    show w1.heap[w.heap.size]? = _
    rw [hw1]; exact heap_alloc_new _ _
  have HW1 := Hid.mk hw1
  clear hw1
  have HST : Hid (PgRel w1 w1 (.slice none 0 0) (SP L 0)) := by
    show PgRel w1 w1 (.slice none 0 0) (SP L 0)
    rw [SP_zero]; exact ⟨OwnW.nil _ _, Below.refl _ _⟩
  go_enter Try.func30, Try.ntmps30
  go_wp2
  go_loopw [3, 4] (fun s3 s4 wr => ∃ (i : Nat) (v3 : Value), i ≤ N ∧ s4 = .int .i64 i ∧ v3 = s3 ∧ PgRel w1 wr v3 (SP L i)) (fun _ s4 _ => N - (intOf s4).toNat)
  case atStart => exact ⟨0, _, by omega, rfl, rfl, by rw [← HW1.out]; exact HST.out⟩
  case round =>
    clear HST HW1
    obtain ⟨i, v3, hi, rfl, rfl, hR⟩ := hrel
    have hsp := HSPEC.out i hi
    have hsz : w1.heap.size ≤ wr.heap.size := hR.bel.size
    by_cases hlt : i < N
    · have HSU := Hid.mk (SP_succ L (i := i) (by rw [HN.out]; exact hlt))
      have hy := HS.out i hlt
      obtain ⟨g, rfl, hg, q1, q2⟩ := HC.out i hlt
      have q1' := ((below_tr HB.out hR.bel).cell (p := ⟨g, _, none⟩) hg).trans q1
      have c1 : wr.cell? ⟨w.heap.size, 1, none⟩ = some (.slice (some ⟨g, 0, none⟩) N cap) := (hR.bel.cell (p := ⟨w.heap.size, 1, none⟩) (by show w.heap.size < _; omega)).trans (row2_facts HK0.out).2.1
      generalize SP L i = ts at *
      generalize L[i]! = pr at *
      obtain ⟨y, z⟩ := pr
      simp only at q1' hy
      clear q1 q2
      obtain ⟨pg, hpg⟩ : ∃ pg, pg = pgA y := ⟨_, rfl⟩
      have hpg2 : (y : Int) - (y : Int) % 4096 = (pg : Int) := by unfold pgA at hpg; omega
      have hpgb : pg < 18446744073709551616 := by unfold pgA at hpg; omega
      have HPG := Hid.mk hpg
      clear hpg
      have HR := Hid.mk hR
      have HW := Hid.mk (own_wsl hR.own)
      obtain ⟨pp, cc, rfl, -⟩ := (own_wsl hR.own).form
      have HO := Hid.mk hR.own
      clear hR
      have HR1 : Hid (PgRel w1 wr.drew (.slice pp ts.length cc) ts) := HR.out.drew
      have HO1 := Hid.mk HR1.out.own
      have fin : ∀ wq v (ts2 : List Nat), PgRel w1 wq v ts2 → stP ts (y, z) = ts2 → PgRel w1 wq v (SP L (i + 1)) := fun wq v ts2 h1 h2 => by
        rw [HSU.out.trans h2]; exact h1
      have FIN := Hid.mk fin
      clear fin
      by_cases hl0 : ts.length = 0
      · have hl02 : (ts.length : Int) = 0 := by omega
        go_wp2
        go_region
        go_wp2_with (first
          | (at_builtin; refine wpList_appW _ rfl _ _ rfl w1.heap.size _ ts rfl (HO1.out.alloc _) pg wr.drew.heap.size rfl (by simp) (by omega) (by simp; omega) ?_; intro g3 cap3 w6 hown6 hgr6)
          | go_in)
        have e2 := FIN.out w6 _ (ts ++ [pg]) (HR1.out.push hgr6 hown6) (by rw [HPG.out]; exact if_pos (Or.inl hl0))
        rw [hl0] at e2
        exact ⟨⟨i + 1, _, by omega, by go_num, rfl, e2⟩, by simp [intOf]; omega⟩
      · obtain ⟨k, hk⟩ : ∃ k, k + 1 = ts.length := ⟨ts.length - 1, by omega⟩
        obtain ⟨gw, rfl, e8⟩ := HW.out.at k (by omega)
        have hk1 : ts.length - 1 = k := by omega
        have hk2 : (ts.length : Int) - 1 = (k : Int) := by omega
        have hk3 : k < ts.length := by omega
        have hl02 : ¬ ((ts.length : Int) = 0) := by omega
        have HL : Hid (ts[ts.length - 1]! = ts[k]!) := by show ts[ts.length - 1]! = ts[k]!; rw [hk1]
        have HK := Hid.mk hk
        clear hk hk1
        generalize ts[k]! = la at *
        generalize hln : ts.length = ln at *
        have HLN := Hid.mk hln
        clear hln
        by_cases hla : la = pg
        · have hla2 : (la : Int) = pg := by omega
          go_wp2
          go_region
          go_wp2
          have e2 := FIN.out wr.drew _ ts HR1.out (if_neg (fun c => by
            rcases c with c | c
            · have := HK.out; rw [HLN.out] at c; omega
            · rw [HLN.out] at c
              exact c (HL.out.trans (hla.trans HPG.out))))
          exact ⟨⟨i + 1, _, by omega, by go_num, rfl, e2⟩, by simp [intOf]; omega⟩
        · have hla2 : ¬ ((la : Int) = pg) := by omega
          go_wp2
          go_region
          go_wp2_with (first
            | (at_builtin; refine wpList_appW _ rfl _ _ rfl w1.heap.size _ ts rfl (HO1.out.alloc _) pg wr.drew.heap.size rfl (by simp) (by rw [HLN.out]; omega) (by simp; omega) ?_; intro g3 cap3 w6 hown6 hgr6)
            | go_in)
          have e2 := FIN.out w6 _ (ts ++ [pg]) (HR1.out.push hgr6 hown6) (by
            rw [HPG.out]
            refine if_pos (Or.inr ?_)
            rw [HLN.out]
            intro c
            exact hla ((HL.out.symm.trans c).trans HPG.out.symm))
          first
            | exact ⟨⟨i + 1, _, by omega, by go_num, rfl, e2⟩, by simp [intOf]; omega⟩
            | (rw [HLN.out] at e2; exact ⟨⟨i + 1, _, by omega, by go_num, rfl, e2⟩, by simp [intOf]; omega⟩)
          all_goals (exfalso; first | omega | contradiction | simp_all)
    · obtain rfl : i = N := by omega
      have HR := Hid.mk hR
      have HW := Hid.mk (own_wsl hR.own)
      have c1 : wr.cell? ⟨w.heap.size, 1, none⟩ = some (.slice p i cap) := (hR.bel.cell (p := ⟨w.heap.size, 1, none⟩) (by show w.heap.size < _; omega)).trans (row2_facts HK0.out).2.1
      obtain ⟨pp, cc, rfl, -⟩ := (own_wsl hR.own).form
      clear hR
      go_wp2
      go_ret
      exact ⟨_, rfl, HR.out.own.wsl (by omega), below_tr HB.out HR.out.bel⟩
end Go.Proofs.Ytiedlkhbbnjkbaa
