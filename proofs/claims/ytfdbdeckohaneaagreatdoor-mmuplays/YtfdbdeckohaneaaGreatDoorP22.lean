/- P22 -/
import Derived.Test.YtfdbdeckohaneaaGreatDoorP19
set_option maxHeartbeats 16000000
set_option maxRecDepth 100000
namespace Go.Proofs.YtfdbdeckohaneaaGreatDoor.TB
open Go.RowKit
def fillN (e : En) : Int := if qbe e = true then 0 else 10
def qbt (l : List En) (most : Int) (e : En) : List En := if qbe e = true then (if memB e l = true then l else if most < (l.length : Int) + 1 then (l ++ [e]).eraseIdx 0 else l ++ [e]) else l
def Xp (X : Nat → Prop) (w w' : World) : Nat → Prop := fun i => X i ∨ (w.heap.size ≤ i ∧ i < w'.heap.size)
theorem Buf.wide {w : World} {X Y : Nat → Prop} {t : Nat} {most : Int} {l : List En} (h : Buf w X t most l) (h1 : ∀ i, X i → Y i) (h2 : ∀ i, Y i → i < w.heap.size) : Buf w Y t most l := by
 obtain ⟨v, h⟩ := h
 exact ⟨v, h.row, h.own, fun g hg => ⟨h1 _ (h.xg g hg).1, (h.xg g hg).2⟩, h1 _ h.xt, h2, h.ok⟩
theorem Buf.xp {w w' : World} {X : Nat → Prop} {t : Nat} {most : Int} {l l' : List En} (h0 : Buf w X t most l') (hs : w.heap.size ≤ w'.heap.size) (h : Buf w' X t most l) : Buf w' (Xp X w w') t most l := by
 obtain ⟨v, h0⟩ := h0
 refine h.wide (fun i hi => Or.inl hi) (fun i hi => ?_)
 rcases hi with hi | hi
 ·exact Nat.lt_of_lt_of_le (h0.lt i hi) hs
 ·exact hi.2
theorem BufV.push {w w1 w4 : World} {X : Nat → Prop} {t : Nat} {most : Int} {v : Value} {l : List En} {e : En} {g n cap : Nat} (h : BufV w X t most v l) (hB : Below w.heap.size w w1) (hgr : w1.grownBy w4 v.ownBlock) (ho : w4.ownsRow 0 91 10 (.slice (some ⟨g, 0, none⟩) n cap) (l ++ [e]).length (ecs (l ++ [e]))) (hat : v.ownBlock = some g ∨ g = w1.heap.size) (hg : g < w4.heap.size) (he : e.ok) :
  BufV (w4.setCell ⟨t, 1, none⟩ (.slice (some ⟨g, 0, none⟩) n cap)) (Xp X w w4) t most (.slice (some ⟨g, 0, none⟩) n cap) (l ++ [e]) ∧ Turn X w (w4.setCell ⟨t, 1, none⟩ (.slice (some ⟨g, 0, none⟩) n cap)) := by
 have htl := h.lt t h.xt
 have hrow : w4.heap[t]? = some (.cells #[.int .i64 most, v] 164 (0, 0)) := (hgr.block t (Nat.lt_of_lt_of_le htl hB.size) (fun c => (h.xg t c.symm).2 rfl)).trans (qaa hB h.row)
 have hgt : g ≠ t := by
  rcases hat with h1 | h1
  ·exact (h.xg g h1).2
  ·have := hB.size; omega
 have hgX : Xp X w w4 g := by
  rcases hat with h1 | h1
  ·exact Or.inl (h.xg g h1).1
  ·exact Or.inr ⟨by rw [h1]; exact hB.size, hg⟩
 rw [setCell_eq_setRow w4 t 1 _ _ _ _ hrow]
 refine ⟨⟨setRow_heap _ _ _ _ _ _ hrow, qdp ho (fun g' hg' => ?_), fun g' hg' => ?_, Or.inl h.xt, fun i hi => ?_, fun x hx => ?_⟩, ?_⟩
 ·cases hg'; exact setRow_other _ _ _ _ hgt
 ·cases hg'; exact ⟨hgX, hgt⟩
 ·show i < (w4.setRow t _).heap.size
  have hsz : (w4.setRow t #[Value.int .i64 most, .slice (some ⟨g, 0, none⟩) n cap]).heap.size = w4.heap.size := by simp
  have hsz' := hgr.size
  have hsz2 := hB.size
  rcases hi with hi | hi
  ·have := h.lt i hi
   simp; omega
  ·simp; omega
 ·rcases List.mem_append.1 hx with h1 | h1
  ·exact h.ok x h1
  ·rw [List.mem_singleton.1 h1]; exact he
 ·refine Turn.trans (X := X) (Y := fun i => i = t) ⟨hgr.os.trans hB.os, hgr.tape.trans hB.tape, hgr.output.trans hB.output, Nat.le_trans hB.size hgr.size, fun i hi hX => (hgr.block i (Nat.lt_of_lt_of_le hi hB.size) (fun c => hX (h.xg i c.symm).1)).trans (hB.block i hi)⟩ (qbk _ _ _) (fun i _ hi => by rw [hi]; exact h.xt)
theorem Xp.mono {X : Nat → Prop} {w w1 w2 : World} (h : w1.heap.size ≤ w2.heap.size) : ∀ i, Xp X w w1 i → Xp X w w2 i := fun i hi => by
 rcases hi with hi | hi
 ·exact Or.inl hi
 ·exact Or.inr ⟨hi.1, Nat.lt_of_lt_of_le hi.2 h⟩
theorem Buf.xpm {X : Nat → Prop} {w w1 w2 : World} {t : Nat} {most : Int} {l : List En} (h : Buf w2 (Xp X w w1) t most l) (h0 : ∀ i, X i → i < w.heap.size) (h1 : w.heap.size ≤ w1.heap.size) (h2 : w1.heap.size ≤ w2.heap.size) : Buf w2 (Xp X w w2) t most l := by
 refine h.wide (Xp.mono h2) (fun i hi => ?_)
 rcases hi with hi | hi
 ·have := h0 i hi; omega
 ·exact hi.2
theorem BufV.push2 {w w0 w1 w4 : World} {X : Nat → Prop} {t : Nat} {most : Int} {v : Value} {l : List En} {e : En} {g n cap : Nat} (h : BufV w X t most v l) (hA : Below w.heap.size w w0) (hB : Below w0.heap.size w0 w1) (hgr : w1.grownBy w4 v.ownBlock) (ho : w4.ownsRow 0 91 10 (.slice (some ⟨g, 0, none⟩) n cap) (l ++ [e]).length (ecs (l ++ [e]))) (hat : v.ownBlock = some g ∨ g = w0.heap.size + 1) (hsz : w1.heap.size = w0.heap.size + 1) (hg : g < w4.heap.size) (he : e.ok) :
  BufV (w4.setCell ⟨t, 1, none⟩ (.slice (some ⟨g, 0, none⟩) n cap)) (Xp X w w4) t most (.slice (some ⟨g, 0, none⟩) n cap) (l ++ [e]) ∧ Turn X w (w4.setCell ⟨t, 1, none⟩ (.slice (some ⟨g, 0, none⟩) n cap)) ∧ (w4.setCell ⟨t, 1, none⟩ (.slice (some ⟨g, 0, none⟩) n cap)).heap.size = w4.heap.size :=
 have h1 := h.push (qab hA hB) hgr ho (hat.imp id (fun e => by rw [hsz]; exact e)) hg he
 ⟨h1.1, h1.2, by simp⟩
theorem fill_c {w : World} {X : Nat → Prop} {t : Nat} {most : Int} {l : List En} (e : En) (he : e.ok) (h : Buf w X t most l) (hn : l.length ≤ 999) (hF : Flds w) :
  Calls Tryz.prog 100 #[.pointer (some ⟨t, 0, none⟩), e.v] w fun r w' => r = .returned (.int .i64 (fillN e)) ∧ Buf w' (Xp X w w') t most (qbt l most e) ∧ Turn X w w' := by
 have hR := fun w1 h1 => rightE_any e he w1 h1
 have HF := Hid.mk hF
 obtain ⟨v, h⟩ := h
 obtain ⟨ad, cap, hv, hf, hr⟩ := h.form
 have HH := Hid.mk h
 have HRD := Hid.mk hr
 have hlI : (l.length : Int) ≤ 999 := by omega
 have hC := fun w1 h1 => contains_c l e ad cap w1 (by omega) h1
 have HN : Hid (fillN e = if qbe e = true then 0 else 10) := rfl
 have HL : Hid (qbt l most e = if qbe e = true then (if memB e l = true then l else if most < (l.length : Int) + 1 then (l ++ [e]).eraseIdx 0 else l ++ [e]) else l) := rfl
 have HEC : Hid (e.cs = e.cs) := rfl
 have HEOK := Hid.mk he
 have HLN := Hid.mk hn
 clear hF h hr hf
 generalize fillN e = FN at *
 generalize qbt l most e = FL at *
 cases hRe : qbe e
 ·rw [hRe, if_neg (by decide)] at HN HL
  rw [hRe] at hR
  clear hRe hC hn
  obtain ⟨a0, a1, a2, a3, a4, a5, a6, a7, a8, a9⟩ := e
  simp only [En.v] at *
  go_enter Tryz.func100, Tryz.ntmps100
  go_wp2_with fail
  refine (hR _ (HF.out.alloc _)).mono ?_
  rintro e w1 ⟨rfl, hb⟩
  go_wp2
  go_ret
  have hB := qab (qac w (.cells #[.int .i64 a0, .int .u64 a1, .int .i64 a2, .int .i64 a3, .int .u64 a4, .bool a5, .bool a6, .bool a7, .bool a8, .int .i64 a9] 91)) hb
  rw [HN.out, HL.out]
  exact ⟨rfl, Buf.xp ⟨v, HH.out⟩ hB.size ⟨v, HH.out.later hB⟩, qak _ hB⟩
 ·rw [hRe, if_pos rfl] at HN HL
  rw [hRe] at hR
  by_cases hmem : e ∈ l
  ·rw [if_pos (qdc hmem)] at HL
   rw [qdc hmem] at hC
   clear hRe hmem hn
   obtain ⟨a0, a1, a2, a3, a4, a5, a6, a7, a8, a9⟩ := e
   simp only [En.v] at *
   subst hv
   go_enter Tryz.func100, Tryz.ntmps100
   go_wp2_with fail
   refine (hR _ (HF.out.alloc _)).mono ?_
   rintro e w1 ⟨rfl, hb⟩
   have HB := Hid.mk (qab (qac w (.cells #[.int .i64 a0, .int .u64 a1, .int .i64 a2, .int .i64 a3, .int .u64 a4, .bool a5, .bool a6, .bool a7, .bool a8, .int .i64 a9] 91)) hb)
   have hK := qaa hb (heap_alloc_new w (.cells #[.int .i64 a0, .int .u64 a1, .int .i64 a2, .int .i64 a3, .int .u64 a4, .bool a5, .bool a6, .bool a7, .bool a8, .int .i64 a9] 91))
   obtain ⟨q0, q1, q2, q3, q4, q5, q6, q7, q8, q9⟩ := qck hK
   obtain ⟨c0, c1⟩ := qaz (qaa HB.out HH.out.row)
   clear hb hR hK
   go_wp2
   first | (go_region_with (go_at_call 133; refine (hC _ (HRD.out.later (qab HB.out (Below.refl _ _).drew))).mono ?_; rintro e w' ⟨rfl, hb2⟩)) | fail
   all_goals go_wp2
   all_goals go_ret
   all_goals
    have hB := qab (qab HB.out (Below.refl _ _).drew) hb2
    rw [HN.out, HL.out]
    exact ⟨rfl, Buf.xp ⟨_, HH.out⟩ hB.size ⟨_, HH.out.later hB⟩, qak _ hB⟩
  ·rw [if_neg (by rw [qew hmem]; decide)] at HL
   rw [qew hmem] at hC
   clear hRe hmem hn
   have HE := Hid.mk (rfl : e = e)
   obtain ⟨f, hf⟩ : ∃ f : En, f = e := ⟨_, rfl⟩
   rw [← hf] at hR hC HEOK HL ⊢
   clear HE HEC he hf
   subst hv
   obtain ⟨a0, a1, a2, a3, a4, a5, a6, a7, a8, a9⟩ := f
   simp only [En.v] at *
   go_enter Tryz.func100, Tryz.ntmps100
   go_wp2_with fail
   refine (hR _ (HF.out.alloc _)).mono ?_
   rintro e w1 ⟨rfl, hb⟩
   have HB := Hid.mk (qab (qac w (.cells #[.int .i64 a0, .int .u64 a1, .int .i64 a2, .int .i64 a3, .int .u64 a4, .bool a5, .bool a6, .bool a7, .bool a8, .int .i64 a9] 91)) hb)
   have hK := qaa hb (heap_alloc_new w (.cells #[.int .i64 a0, .int .u64 a1, .int .i64 a2, .int .i64 a3, .int .u64 a4, .bool a5, .bool a6, .bool a7, .bool a8, .int .i64 a9] 91))
   obtain ⟨q0, q1, q2, q3, q4, q5, q6, q7, q8, q9⟩ := qck hK
   obtain ⟨c0, c1⟩ := qaz (qaa HB.out HH.out.row)
   have HK := Hid.mk hK
   clear hb hR hK
   go_wp2
   first | (go_region_with (go_at_call 133; refine (hC _ (HRD.out.later (qab HB.out (Below.refl _ _).drew))).mono ?_; rintro e w' ⟨rfl, hb2⟩)) | fail
   all_goals
    have HB3 := Hid.mk (qab (qab HB.out (Below.refl _ _).drew) hb2)
    have K3 := Hid.mk (qaa (qab (Below.refl _ _).drew hb2) HK.out)
    clear q0 q1 q2 q3 q4 q5 q6 q7 q8 q9 c0 c1 hb2 HB HK hC
    have HV3 := Hid.mk (HH.out.later HB3.out)
    obtain ⟨q0, q1, q2, q3, q4, q5, q6, q7, q8, q9⟩ := qck K3.out
    obtain ⟨c0, c1⟩ := qaz HV3.out.row
    have HLT := Hid.mk (HV3.out.lt t HV3.out.xt)
    have c1a := fun ob => cell_later (qac w' ob) c1
    clear K3
    go_wp2
    go_region_law
     ((refine step_appE etyT _ (by rfl) _ _ (by rfl) 0 (.slice ad l.length cap) l (by rfl) ((World.ownsRow.alloc HV3.out.own _).drew) [⟨a0, a1, a2, a3, a4, a5, a6, a7, a8, a9⟩] ⟨w'.heap.size, 0, none⟩ 1 (by rfl) (fun j u hu => World.news_of_block (cs := #[.int .i64 a0, .int .u64 a1, .int .i64 a2, .int .i64 a3, .int .u64 a4, .bool a5, .bool a6, .bool a7, .bool a8, .int .i64 a9]) (t := 91) (fr := (0, 0)) (heap_alloc_new w' _) j u hu) Nat.zero_lt_one (by have := HLN.out; show l.length + 1 ≤ 100000; omega) (Nat.zero_le _) (w'.heap.size + 1) (by simp) ?_
       intro g cap2 w4 hown4 hgrow hat hlt
       have k3 := (hgrow.cell_far ⟨t, 1, none⟩ (by have := HLT.out; show t < (w'.heap.push _).size; simp; omega) (fun c => (HV3.out.xg t c.symm).2 rfl)).trans (c1a _)
       have j3 := (hgrow.frozen_far ⟨t, 1, none⟩ (by have := HLT.out; show t < (w'.heap.push _).size; simp; omega) (fun c => (HV3.out.xg t c.symm).2 rfl)).trans (frozen_of_row _ _ _ _ _ (qaa (qac w' _).drew HV3.out.row))))
    all_goals
     have HP := Hid.mk (HH.out.push2 HB3.out (qac w' _).drew hgrow (show w4.ownsRow 0 91 10 (.slice (some ⟨g, 0, none⟩) (l.length + 1) cap2) _ _ from hown4) hat (by simp) hlt HEOK.out)
     have HX0 := Hid.mk HH.out.lt
     have HSZ := Hid.mk (Nat.le_trans HB3.out.size (Nat.le_trans (qac w' (.cells #[.int .i64 a0, .int .u64 a1, .int .i64 a2, .int .i64 a3, .int .u64 a4, .bool a5, .bool a6, .bool a7, .bool a8, .int .i64 a9] 91)).size hgrow.size))
     clear hgrow hown4 hat hlt k3 j3 c1a HV3 HB3 HLT q0 q1 q2 q3 q4 q5 q6 q7 q8 q9 c0 c1 HH HRD HF
     generalize w4.setCell ⟨t, 1, none⟩ (.slice (some ⟨g, 0, none⟩) (l.length + 1) cap2) = w5 at *
     obtain ⟨c0, c1⟩ := qaz HP.out.1.row
     by_cases hmo : most < (l.length : Int) + 1
     ·rw [if_pos hmo] at HL
      have hDr := fun W (hW : Buf W (Xp X w w4) t most (l ++ [⟨a0, a1, a2, a3, a4, a5, a6, a7, a8, a9⟩])) => drop_yes hW 0 (by simp) (by have := HLN.out; simp; omega)
      have HDR := Hid.mk hDr
      clear hDr
      go_wp2
      go_quiet (fail)
      go_wp2_with fail
      refine (HDR.out _ (Buf.later ⟨_, HP.out.1⟩ (qav (Below.refl _ _) _))).mono ?_
      rintro e w6 ⟨rfl, hBf, hTu⟩
      clear HDR c0 c1
      go_wp2
      go_ret
      rw [HN.out, HL.out]
      refine ⟨rfl, hBf.xpm HX0.out HSZ.out ?_, (qdb HP.out.2.1 (qav (Below.refl _ _) _)).trans hTu (fun i hi hx => ?_)⟩
      ·exact Nat.le_trans (Nat.le_of_eq HP.out.2.2.symm) hTu.size
      ·rcases hx with hx | hx
       ·exact hx
       ·omega
     ·rw [if_neg hmo] at HL
      go_wp2
      go_quiet (fail)
      go_wp2
      go_ret
      rw [HN.out, HL.out]
      exact ⟨rfl, (Buf.later ⟨_, HP.out.1⟩ (qav (Below.refl _ _) _)).xpm HX0.out HSZ.out (Nat.le_of_eq HP.out.2.2.symm), qdb HP.out.2.1 (qav (Below.refl _ _) _)⟩
end Go.Proofs.YtfdbdeckohaneaaGreatDoor.TB
