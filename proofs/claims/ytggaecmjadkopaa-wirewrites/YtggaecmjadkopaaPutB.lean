/-
  The step 'put' where bytes are put: they are handed in with marks behind them, and turned over afterwards. Conditions: lengths fit.
-/
import Derived.Test.YtggaecmjadkopaaPutA
namespace Go.Proofs.Ytggaecmjadkopaa
open Go.RowKit

set_option maxHeartbeats 1000000 in
theorem put3 {W0 w : World} {p : Nat} {v bv : Value} {l : List UInt8} (h : Inv W0 w p v bv l) (op n at_ : Int) (nm : ByteArray) (so : Option Addr) (sc : Nat) (bs : List UInt8) (hc : pickN op 9 = 3) (hbs : BAt W0 so bs) (hso : so = none → bs = [] ∧ sc = 0) (hbl : bs.length ≤ 140737488351232) :
    Calls Try.prog 17 #[.pointer (some ⟨p, 0, none⟩), bv, .agg #[.int .i64 op, .int .i64 n, .int .i64 at_, .string nm, .slice so bs.length sc]] w (PutPost W0 p) := by
  have HC := hide hc
  have hlen := h.wr.len
  obtain ⟨bo, bc, hbv, _⟩ := h.ob.at
  subst hbv
  have hI1 := h.below ((Below.refl _ w).alloc (Nat.le_refl _) (.cells #[.int .i64 op, .int .i64 n, .int .i64 at_, .string nm, .slice so bs.length sc] 45))
  have HI := hide hI1
  have HH := hide h
  clear hc hI1 h
  go_enter Try.func17, Try.ntmps17
  go_wp2_with fail
  refine (pick_any op 9 _ (by omega) (by omega)).mono ?_
  rintro e w1 ⟨rfl, hw1⟩
  rw [unhide HC, hw1]
  clear hw1
  go_wp2_with fail
  have hbs1 : BAt (w.alloc (.cells #[.int .i64 op, .int .i64 n, .int .i64 at_, .string nm, .slice so bs.length sc] 45)) so bs := hbs.below' (unhide HI).bel
  refine (Roomy_any so sc bs _ hbs1 (fun e => (hso e).1) hbl).mono ?_
  rintro e w2 ⟨g, cp, rfl, hg, hown, hB2⟩
  have hI2 := (unhide HI).below hB2
  have hg' : w.heap.size + 1 ≤ g := by rw [World.size_alloc] at hg; exact hg
  have hr : BAt w2 (some ⟨g, 0, none⟩) (roomy bs) ∧ bs.length + 4 ≤ cp ∧ g < w2.heap.size := by
    rcases hown.shape with ⟨h1, _⟩ | ⟨g', cap', hv, _, hgl, hc, _, hbt⟩
    · cases h1
    · injection hv with hv hv2 hv3
      injection hv with hv
      injection hv with hv
      subst hv hv3
      rw [roomy_length] at hc
      exact ⟨hbt, hc, hgl⟩
  obtain ⟨hr, hcp, hgl⟩ := hr
  have hpl := (unhide HH).wr.pl
  have hvl := (unhide HH).vl
  have hgp : g ≠ p := by omega
  have hgv : v.ownBlock ≠ some g := fun e => by have := hvl g e; omega
  have hgb : (Value.slice bo l.length bc).ownBlock ≠ some g := fun e => by have := (unhide HH).bl g e; omega
  have HI2 := hide hI2
  have HO := hide hown
  have HR := hide hr
  have hrow0 : w2.heap[w.heap.size]? = some (.cells #[.int .i64 op, .int .i64 n, .int .i64 at_, .string nm, .slice so bs.length sc] 45 (0, 0)) := (hB2.block w.heap.size (by simp)).trans (heap_alloc_new w _)
  have HRow := hide hrow0
  clear hI2 hown hr hB2 hbs1 hrow0 hvl
  go_wp2_with fail
  refine (Put_u (unhide HI2).wr _ bs (.inr ⟨_, _, rfl, (unhide HR).take⟩) (by omega)).mono ?_
  rintro e w3 ⟨rfl, v3, hW3, hK3, hF3⟩
  have hM := (unhide HI2).mid hW3 hK3 hF3
  have hnW : ¬ WT p v g := by
    rintro (e | e)
    · exact hgp e
    · exact hgv e
  have hO3 := (unhide HO).keep hK3 (fun k e => by cases e; exact hnW)
  have hr3 := (unhide HR).keep hK3 (fun b off e _ => by cases e; exact hnW)
  have hrow3 : w3.heap[w.heap.size]? = some (.cells #[.int .i64 op, .int .i64 n, .int .i64 at_, .string nm, .slice so bs.length sc] 45 (0, 0)) := (hK3.block w.heap.size (by omega) (by
    rintro (e | e)
    · omega
    · have := (unhide HH).vl _ e; omega)).trans (unhide HRow)
  have c4 : w3.cell? ⟨w.heap.size, 4, none⟩ = some (.slice so bs.length sc) := by rw [cell_of_row _ _ _ _ _ _ hrow3]; rfl
  have hgv3 : v3.ownBlock ≠ some g := fun e => by
    rcases hF3 g e with e | e
    · exact hgv e
    · omega
  have hgl3 : g < w3.heap.size := by have := hK3.size; omega
  have hs3 : BAt w3 so bs := hbs.below' hM.bel
  have hsrc3 : SrcB w3 (.slice so bs.length sc) bs := by
    cases so with
    | none => obtain ⟨e1, e2⟩ := hso rfl; subst e1 e2; exact .inl ⟨rfl, rfl⟩
    | some x => exact .inr ⟨x, sc, rfl, hs3⟩
  have HM := hide hM
  have HO3 := hide hO3
  have HR3 := hide hr3
  have HS3 := hide hsrc3
  have HB3 := hide hs3
  have HRow3 := hide hrow3
  clear hM hW3 hK3 hF3 hO3 hr3 hrow3 hsrc3 hs3
  go_wp2_with fail
  refine (Join_u (unhide HM).ob (unhide HS3) hlen hbl).mono ?_
  rintro e w4 ⟨bv4, rfl, hO4, hB4, hF4⟩
  have hD := Mid.done (unhide HI2) (unhide HM) hO4 hB4 hF4
  have hgb4 : bv4.ownBlock ≠ some g := fun e => by
    rcases hF4 with rfl | hF4
    · exact hgb e
    · have := hF4 g e; omega
  have d4 : w4.cell? ⟨w.heap.size, 4, none⟩ = some (.slice so bs.length sc) := (hB4.cell (p := ⟨w.heap.size, 4, none⟩) (by show w.heap.size < _; omega)).trans c4
  have hO5 := (unhide HO3).below hB4
  have hr5 := (unhide HR3).below' hB4
  have hs5 := (unhide HB3).below' hB4
  have HD := hide hD
  have HO5 := hide hO5
  have HR5 := hide hr5
  have HS5 := hide hs5
  clear hD hO4 hB4 hF4 hO5 hr5 hs5 c4
  go_wp2_with fail
  refine (Untouched_yes g cp so sc bs _ (unhide HR5) (unhide HS5) hcp (by omega)).mono ?_
  rintro e w5 ⟨rfl, j, rfl⟩
  go_wp2
  go_loopw [89] (fun i wr => ∃ (k : Nat) (L : List UInt8), k ≤ bs.length ∧ i = .int .i64 k ∧ OwnB wr 0 (.slice (some ⟨g, 0, none⟩) (bs.length + 4) cp) L ∧ L.length = bs.length + 4 ∧ Inv W0 wr p v3 bv4 (jL l bs)) (fun i _ => bs.length - (intOf i).toNat)
  case atStart => exact ⟨0, roomy bs, by omega, rfl, ((unhide HO5).below (belowD (Below.refl _ w4) j)).mono (Nat.zero_le _), roomy_length bs, (unhide HD).below (belowD (Below.refl _ w4) j)⟩
  case round =>
    obtain ⟨k, L, hk, rfl, hO, hL, hI⟩ := hrel
    by_cases hlt : k < bs.length
    · have hO' : wr.ownsRow 0 5 1 (.slice (some ⟨g, 0, none⟩) (bs.length + 4) cp) (bs.length + 4) (bvals L) := by
        have := hO; unfold OwnB at this; rw [hL] at this; exact this
      have c1 : wr.cell? ⟨g, k, none⟩ = some (.int .u8 (at8 L k)) := (hO'.cellAt k (by omega)).trans (bvals_get (by omega))
      have f1 := hO'.frozenAt k
      have i1 : (k : Int) < (bs.length : Int) := by omega
      obtain ⟨x, HX⟩ : ∃ x, Hid (L.getD k 0 = x) := ⟨_, hide rfl⟩
      have hx : at8 L k = (x.toNat : Int) := by unfold at8; rw [unhide HX]
      rw [hx] at c1
      have hfl := flip8 x
      have hst := hO'.stored k (.int .u8 ((x ^^^ 255).toNat : Int))
      have HO1 : Hid (OwnB (wr.setCell ⟨g, k, none⟩ (.int .u8 ((x ^^^ 255).toNat : Int))) 0 (.slice (some ⟨g, 0, none⟩) (bs.length + 4) cp) (L.set k (x ^^^ 255))) := hide (by
        have h1 := hst.1
        rw [bvals_set] at h1
        unfold OwnB
        rw [List.length_set, hL]
        exact h1)
      have HI1 : Hid (Inv W0 (wr.setCell ⟨g, k, none⟩ (.int .u8 ((x ^^^ 255).toNat : Int))) p v3 bv4 (jL l bs)) := hide (hI.keep (kept_setCell wr ⟨g, k, none⟩ _)
        (fun y hy e => by rw [e] at hy; exact Or.elim hy (fun e => hgp e) (fun e => hgv3 e)) (fun y hy e => by rw [e] at hy; exact hgb4 hy) (fun y e => by rw [e]; have := (unhide HH).bel.size; show W0.heap.size ≤ g; omega))
      generalize ((x ^^^ 255).toNat : Int) = z at hfl HO1 HI1
      clear hst hO hO' hI hx
      go_wp2
      go_roundw
      case rel => exact ⟨k + 1, _, by omega, by go_num, unhide HO1, by rw [List.length_set]; exact hL, unhide HI1⟩
      case measure => simp [intOf]; omega
    · go_wp2
      go_ret2
      exact ⟨v3, bv4, _, rfl, hI⟩

theorem put_any {W0 w : World} {p : Nat} {v bv : Value} {l : List UInt8} (h : Inv W0 w p v bv l) (op n at_ : Int) (nm : ByteArray) (so : Option Addr) (sc : Nat) (bs : List UInt8)
    (hbs : BAt W0 so bs) (hso : so = none → bs = [] ∧ sc = 0) (hbl : bs.length ≤ 140737488351232) (hnm : nm.size ≤ 140737488351232) :
    Calls Try.prog 17 #[.pointer (some ⟨p, 0, none⟩), bv, .agg #[.int .i64 op, .int .i64 n, .int .i64 at_, .string nm, .slice so bs.length sc]] w (PutPost W0 p) := by
  have hlt := pickN_lt op 9 (by omega)
  have hnm' : nm.size ≤ maxLen := by unfold maxLen; omega
  have hc : pickN op 9 = 0 ∨ pickN op 9 = 1 ∨ pickN op 9 = 2 ∨ pickN op 9 = 3 ∨ pickN op 9 = 4 ∨ pickN op 9 = 5 ∨ pickN op 9 = 6 ∨ pickN op 9 = 7 ∨ pickN op 9 = 8 := by omega
  rcases hc with hc | hc | hc | hc | hc | hc | hc | hc | hc
  · exact put0 h op n at_ nm so sc bs hc
  · exact put1 h op n at_ nm so sc bs hc
  · exact put2 h op n at_ nm so sc bs hc
  · exact put3 h op n at_ nm so sc bs hc hbs hso hbl
  · exact put4 h op n at_ nm so sc bs hc hnm'
  · exact put5 h op n at_ nm so sc bs hc
  · exact put6 h op n at_ nm so sc bs hc
  · exact put7 h op n at_ nm so sc bs hc
  · exact put8 h op n at_ nm so sc bs hc
end Go.Proofs.Ytggaecmjadkopaa
