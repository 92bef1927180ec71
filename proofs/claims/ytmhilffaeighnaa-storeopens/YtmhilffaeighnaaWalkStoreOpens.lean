/-
  The walk of the law StoreOpens: it returns true for every image, and writes nothing that was there.
-/
import Derived.Test.YtmhilffaeighnaaSr16
import Derived.Test.YtmhilffaeighnaaRoom
namespace Go.Proofs.Ytmhilffaeighnaa
open Go.RowKit
set_option maxRecDepth 20000

theorem flip8S (x : UInt8) : bits .xor .u8 (x.toNat : Int) 255 = ((x ^^^ 255).toNat : Int) := by
  have hx := x.toNat_lt
  have h1 : (BitVec.ofInt 8 (x.toNat : Int)).toNat = x.toNat := by
    rw [BitVec.ofInt_natCast, BitVec.toNat_ofNat]; exact Nat.mod_eq_of_lt (by omega)
  have h2 : (BitVec.ofInt 8 (255 : Int)).toNat = 255 := by decide
  have hw : ∀ n : Int, IntKind.u8.wrap n = n % 256 := fun n => by simp [IntKind.wrap, IntKind.bits, IntKind.signed]
  have hlt : x.toNat ^^^ 255 < 256 := Nat.xor_lt_two_pow (n := 8) (by omega) (by omega)
  show IntKind.u8.wrap ((BitVec.ofInt 8 (x.toNat : Int) ^^^ BitVec.ofInt 8 (255 : Int)).toNat : Int) = _
  rw [BitVec.toNat_xor, h1, h2, hw, UInt8.toNat_xor]
  show ((x.toNat ^^^ 255 : Nat) : Int) % 256 = ((x.toNat ^^^ 255 : Nat) : Int)
  omega
theorem bvals_setS (L : List UInt8) (j : Nat) (x : UInt8) : (bvals L).set j (.int .u8 (x.toNat : Int)) = bvals (L.set j x) := by
  unfold bvals; rw [List.map_set]
theorem openS_big {l : List UInt8} {k : Nat} {K : List Ke} (h : openS l = some (k, K)) : l.length ≤ 1048576 := by
  unfold openS at h
  split at h
  · cases h
  · omega
set_option maxHeartbeats 8000000 in
theorem walkStoreOpens {w : World} (ao : Option Addr) (c : Nat) (l : List UInt8) (hl : BAt w ao l) (hn : ao = none → l = [] ∧ c = 0) (hb : l.length ≤ 140737488351232) (hlc : l.length ≤ c) :
    Calls Try.prog 4 #[.slice ao l.length c] w fun e w' => e = .returned (.bool true) ∧ Below w.heap.size w w' := by
  have HL := hide hl
  have HN := hide hn
  have HRm := hide (Roomy_any ao c l w hl (fun e => (hn e).1) hb)
  clear hl hn
  go_enter Try.func4, Try.ntmps4
  go_wp2_with fail
  refine (unhide HRm).mono ?_
  rintro e W1 ⟨g, cp, rfl, hg, hO1, hb1⟩
  have HB1 := hide hb1
  have HO1 := hide hO1
  have hg1 : g < W1.heap.size := (World.ownsRow.lt hO1 g rfl).2
  have hcp : l.length + 4 ≤ cp := by
    rcases hO1.2 with ⟨h, _⟩ | ⟨g', cap', cur, hv, _, _, hn', _⟩
    · cases h
    · injection hv with _ _ hv
      rw [roomy_length] at hn'
      omega
  have hgb : BAt W1 (some ⟨g, 0, none⟩) (roomy l) := by
    obtain ⟨a', c', e', h'⟩ := hO1.at
    injection e' with e' _ _
    rw [e']
    exact h'
  have HGB := hide hgb
  have HOp := hide (OpenS_any (some ⟨g, 0, none⟩) cp l W1 (BAt.take (m := [165, 90, 195, 60]) hgb) (fun e => by cases e) hb (by omega))
  clear hO1 hb1 HRm hgb
  go_wp2_with fail
  refine (unhide HOp).mono ?_
  rintro e W2 ⟨hb2, hc2⟩
  have HB2 := hide ((unhide HB1).trans (hb2.mono (unhide HB1).size))
  have HO2 := hide ((unhide HO1).below hb2)
  have HUn := hide (Untouched_yes g cp ao c l W2 ((unhide HGB).below' hb2) ((unhide HL).below' (unhide HB2)) hcp (by omega))
  clear hb2 HO1 HGB HOp
  rcases hc2 with ⟨rfl, hos⟩ | ⟨sg, iv, kv, kk, K, rfl, hos, hst, hok, hen, hkl⟩
  · have HOS := hide hos
    clear hos
    go_wp2_with fail
    refine (unhide HUn).mono ?_
    rintro e W3 ⟨rfl, j3, hw3⟩
    have hd3 : Below W2.heap.size W2 W3 := by rw [hw3]; exact ⟨rfl, rfl, rfl, Nat.le_refl _, fun _ _ => rfl⟩
    have HB3 := hide ((unhide HB2).trans (hd3.mono (unhide HB2).size))
    have HO3 := hide ((unhide HO2).below hd3)
    clear hw3 hd3 HUn HO2 HB2
    go_wp2_with fail
    go_loopw [26] (fun i wr => ∃ (k : Nat) (G : List UInt8), k ≤ l.length ∧ i = .int .i64 k ∧ Hid (OwnB wr 0 (.slice (some ⟨g, 0, none⟩) (l.length + 4) cp) G ∧ G.length = l.length + 4) ∧ Hid (Below w.heap.size w wr)) (fun i _ => l.length - (intOf i).toNat)
    case atStart => exact ⟨0, roomy l, by omega, rfl, hide ⟨(unhide HO3).mono (Nat.zero_le _), roomy_length l⟩, HB3⟩
    case round =>
      clear HB3 HO3
      obtain ⟨k, G, hk, rfl, HOG, HBr⟩ := hrel
      by_cases hlt : k < l.length
      · have hL := (unhide HOG).2
        have hO' : wr.ownsRow 0 5 1 (.slice (some ⟨g, 0, none⟩) (l.length + 4) cp) (l.length + 4) (bvals G) := by
          have := (unhide HOG).1; unfold OwnB at this; rw [hL] at this; exact this
        have c1 : wr.cell? ⟨g, k, none⟩ = some (.int .u8 (at8 G k)) := (hO'.cellAt k (by omega)).trans (bvals_get (by omega))
        have f1 := hO'.frozenAt k
        have i1 : (k : Int) < (l.length : Int) := by omega
        obtain ⟨x, HX⟩ : ∃ x, Hid (G.getD k 0 = x) := ⟨_, hide rfl⟩
        have hx : at8 G k = (x.toNat : Int) := by unfold at8; rw [unhide HX]
        rw [hx] at c1
        have hfl := flip8S x
        have hst := hO'.stored k (.int .u8 ((x ^^^ 255).toNat : Int))
        have HO1 : Hid (OwnB (wr.setCell ⟨g, k, none⟩ (.int .u8 ((x ^^^ 255).toNat : Int))) 0 (.slice (some ⟨g, 0, none⟩) (l.length + 4) cp) (G.set k (x ^^^ 255)) ∧ (G.set k (x ^^^ 255)).length = l.length + 4) := hide (by
          have h1 := hst.1
          rw [bvals_setS] at h1
          refine ⟨?_, by rw [List.length_set, hL]⟩
          unfold OwnB
          rw [List.length_set, hL]
          exact h1)
        have hkk := kept_setCell wr ⟨g, k, none⟩ (.int .u8 ((x ^^^ 255).toNat : Int))
        have HB1 := hide ((unhide HBr).setCell (p := ⟨g, k, none⟩) hg (.int .u8 ((x ^^^ 255).toNat : Int)))
        generalize ((x ^^^ 255).toNat : Int) = z at hfl HO1 HB1
        clear hst hO' hx hkk hL HOG HBr
        go_wp2
        go_roundw
        case rel => exact ⟨k + 1, _, by omega, by go_num, HO1, HB1⟩
        case measure => simp [intOf]; omega
      · have i1 : ¬ (k : Int) < (l.length : Int) := by omega
        clear HOG
        have HRf := hide (refOpen_any ao c l wr ((unhide HL).below' (unhide HBr)) (fun e => (unhide HN e).1) hb hlc (fun e => (unhide HN e).2))
        go_wp2_with fail
        refine (unhide HRf).mono ?_
        rintro e W5 ⟨hb5, hc5⟩
        have HB5 := hide ((unhide HBr).trans (hb5.mono (unhide HBr).size))
        clear hb5 HRf
        rcases hc5 with ⟨rfl, _⟩ | ⟨_, _, _, _, _, rfl, hs5, _⟩
        · go_wp2
          go_ret
          exact ⟨rfl, (unhide HB5).alloc (unhide HB5).size _⟩
        · rw [unhide HOS] at hs5
          cases hs5
  · have HOS := hide hos
    have HS2 := hide hst
    have HKK := hide (And.intro hok hen)
    have HBIG := hide (openS_big hos)
    clear hos hst hok hen
    go_wp2_with fail
    refine (unhide HUn).mono ?_
    rintro e W3 ⟨rfl, j3, hw3⟩
    have hd3 : Below W2.heap.size W2 W3 := by rw [hw3]; exact ⟨rfl, rfl, rfl, Nat.le_refl _, fun _ _ => rfl⟩
    have HB3 := hide ((unhide HB2).trans (hd3.mono (unhide HB2).size))
    have HO3 := hide ((unhide HO2).below hd3)
    have HS3 := hide ((unhide HS2).below hd3)
    clear hw3 hd3 HUn HO2 HB2
    go_wp2_with fail
    go_loopw [26] (fun i wr => ∃ (k : Nat) (G : List UInt8), k ≤ l.length ∧ i = .int .i64 k ∧ Hid (OwnB wr 0 (.slice (some ⟨g, 0, none⟩) (l.length + 4) cp) G ∧ G.length = l.length + 4) ∧ Hid (Below w.heap.size w wr) ∧ Hid (IsSt wr W1.heap.size sg iv kv (l.take kk) K)) (fun i _ => l.length - (intOf i).toNat)
    case atStart => exact ⟨0, roomy l, by omega, rfl, hide ⟨(unhide HO3).mono (Nat.zero_le _), roomy_length l⟩, HB3, HS3⟩
    case round =>
      clear HB3 HO3
      obtain ⟨k, G, hk, rfl, HOG, HBr, HSr⟩ := hrel
      by_cases hlt : k < l.length
      · have hL := (unhide HOG).2
        have hO' : wr.ownsRow 0 5 1 (.slice (some ⟨g, 0, none⟩) (l.length + 4) cp) (l.length + 4) (bvals G) := by
          have := (unhide HOG).1; unfold OwnB at this; rw [hL] at this; exact this
        have c1 : wr.cell? ⟨g, k, none⟩ = some (.int .u8 (at8 G k)) := (hO'.cellAt k (by omega)).trans (bvals_get (by omega))
        have f1 := hO'.frozenAt k
        have i1 : (k : Int) < (l.length : Int) := by omega
        obtain ⟨x, HX⟩ : ∃ x, Hid (G.getD k 0 = x) := ⟨_, hide rfl⟩
        have hx : at8 G k = (x.toNat : Int) := by unfold at8; rw [unhide HX]
        rw [hx] at c1
        have hfl := flip8S x
        have hst := hO'.stored k (.int .u8 ((x ^^^ 255).toNat : Int))
        have HO1 : Hid (OwnB (wr.setCell ⟨g, k, none⟩ (.int .u8 ((x ^^^ 255).toNat : Int))) 0 (.slice (some ⟨g, 0, none⟩) (l.length + 4) cp) (G.set k (x ^^^ 255)) ∧ (G.set k (x ^^^ 255)).length = l.length + 4) := hide (by
          have h1 := hst.1
          rw [bvals_setS] at h1
          refine ⟨?_, by rw [List.length_set, hL]⟩
          unfold OwnB
          rw [List.length_set, hL]
          exact h1)
        have hkk := kept_setCell wr ⟨g, k, none⟩ (.int .u8 ((x ^^^ 255).toNat : Int))
        have HB1 := hide ((unhide HBr).setCell (p := ⟨g, k, none⟩) hg (.int .u8 ((x ^^^ 255).toNat : Int)))
        have HS1 := hide ((unhide HSr).keep hkk (fun e => by have h1 := (unhide HSr).low; have h2 : sg = g := e; omega) (fun q e e2 => by have h1 := (World.ownsRow.lt (unhide HSr).img q e).1; have h2 : q = g := e2; omega) (fun q e e2 => by have h1 := (World.ownsRow.lt (unhide HSr).kep q e).1; have h2 : q = g := e2; omega))
        generalize ((x ^^^ 255).toNat : Int) = z at hfl HO1 HB1 HS1
        clear hst hO' hx hkk hL HOG HBr
        go_wp2
        go_roundw
        case rel => exact ⟨k + 1, _, by omega, by go_num, HO1, HB1, HS1⟩
        case measure => simp [intOf]; omega
      · have i1 : ¬ (k : Int) < (l.length : Int) := by omega
        clear HOG
        have HRf := hide (refOpen_any ao c l wr ((unhide HL).below' (unhide HBr)) (fun e => (unhide HN e).1) hb hlc (fun e => (unhide HN e).2))
        go_wp2_with fail
        refine (unhide HRf).mono ?_
        rintro e W5 ⟨hb5, hc5⟩
        have HB5 := hide ((unhide HBr).trans (hb5.mono (unhide HBr).size))
        have HS5 := hide ((unhide HSr).below hb5)
        clear hb5 HRf
        rcases hc5 with ⟨rfl, hs5⟩ | ⟨xi, lv, k', K', L, rfl, hs5, hxi, hlv, hrk, hsm, hen, hkl⟩
        · rw [unhide HOS] at hs5
          cases hs5
        · rw [unhide HOS] at hs5
          injection hs5 with hs5
          injection hs5 with e1 e2
          subst e1 e2
          have hal : Below W5.heap.size W5 (W5.alloc (.cells #[xi, lv] 28)) := (Below.refl _ _).alloc (Nat.le_refl _) _
          have HBX : Hid (Bx (W5.alloc (.cells #[xi, lv] 28)) W5.heap.size 28 #[xi, lv]) := hide (heap_alloc_new W5 _)
          have HB6 := hide ((unhide HB5).trans (hal.mono (unhide HB5).size))
          have HAl := hide (alike_yes ((unhide HS5).below hal) (by rw [List.length_take]; have := unhide HBIG; omega) (unhide HKK).1 (by rw [List.length_take, Nat.min_eq_left hkl]; exact hen) (hxi.below hal) (hlv.below hal) (hrk.below hal) (hsm.take hen))
          obtain ⟨xa, xc, hxv, -⟩ := hxi.at
          rw [List.length_take, Nat.min_eq_left hkl] at hxv
          subst hxv
          obtain ⟨la, lc, rfl, -⟩ := hlv.at
          have r0 := (unhide HBX).c 0 rfl
          have r1 := (unhide HBX).c 1 rfl
          clear hal hxi hlv hrk hsm hen
          go_wp2_with fail
          with_reducible refine (unhide HAl).mono ?_
          rintro e W7 ⟨rfl, hb7⟩
          have HB7 := hide ((unhide HB6).trans (hb7.mono (unhide HB6).size))
          clear hb7 HAl
          go_wp2
          go_ret
          exact ⟨rfl, unhide HB7⟩
end Go.Proofs.Ytmhilffaeighnaa
