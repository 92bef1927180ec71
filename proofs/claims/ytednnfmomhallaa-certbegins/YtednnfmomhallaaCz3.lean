/-
  The contract of cert.Check: the first entry at fault, and its error. Conditions: the entries lie there, each with 24 slots; there are fewer than 2^42.
-/
import Derived.Test.YtednnfmomhallaaCz2
import Derived.Test.YtednnfmomhallaaCf1
namespace Go.Proofs.Ytednnfmomhallaa
open Go.RowKit

/-- These entries lie there. -/
def EsAt (W : World) (ao : Option Addr) (es : List En) : Prop := ∀ (i : Nat) x, es[i]? = some x → ∃ b off, ao = some ⟨b, off, none⟩ ∧ W.rangeAt b (off + i * 28) (enL x)
theorem EsAt.below {W W' : World} {ao : Option Addr} {es : List En} (h : EsAt W ao es) {B : Nat} (hB : B = W.heap.size) (hb : Below B W W') : EsAt W' ao es := by
  subst hB
  intro i x hx
  obtain ⟨b, off, e, hr⟩ := h i x hx
  refine ⟨b, off, e, fun j v hj => ?_⟩
  have := hr j v hj
  exact (hb.cell (p := ⟨b, off + i * 28 + j, none⟩) (World.block_lt_of_cell? W _ this)).trans this
theorem OwnE.at {w : World} {base : Nat} {v : Value} {l : List En} (h : OwnE w base v l) (ho : EsOk l) : ∃ ao cap, v = .slice ao l.length cap ∧ EsAt w ao l := by
  obtain ⟨ao, cap, rfl⟩ := h.slice
  refine ⟨ao, cap, rfl, fun i x hx => ?_⟩
  obtain ⟨g, cp, hv, hr⟩ := h.range ho hx
  injection hv with h1 _ _
  exact ⟨g, 0, h1, by rw [Nat.zero_add]; exact hr⟩
/-- The first entry at fault, and its error. -/
def ckL (lo : Int) : List En → Nat → Int → Nat × Int
  | [], _, _ => (0, 0)
  | x :: es, i, ahead => if aftD x.at_ ahead ≠ 0 then (i, aftD x.at_ ahead) else if bodD lo x ≠ 0 then (i, bodD lo x) else ckL lo es (i + 1) x.at_
def ckC (lo : Int) (es : List En) : Nat × Int := if lo < 0 ∨ 16 < lo then (0, 5) else if 4096 < es.length then (4096, 4) else ckL lo es 0 (-1)

set_option maxRecDepth 20000 in
set_option maxHeartbeats 2000000 in
theorem certCheck_any (lo : Int) (ao : Option Addr) (cap : Nat) (es : List En) (w : World) (hE : EsAt w ao es) (ho : EsOk es) (hl : es.length ≤ 4398046511104) :
    Calls Try.prog 9 #[.agg #[.int .i64 lo, .slice ao es.length cap]] w fun e w' => e = .returned (.tuple #[.int .i64 ((ckC lo es).1 : Int), .int .i64 (ckC lo es).2]) ∧ Below w.heap.size w w' := by
  have HE := hide hE
  have hal := ((Below.refl w.heap.size w).alloc (Nat.le_refl _) (.cells #[.int .i64 lo, .slice ao es.length cap] 24))
  have HA := hide hal
  have HC : Hid (CAt (w.alloc (.cells #[.int .i64 lo, .slice ao es.length cap] 24)) w.heap.size lo (.slice ao es.length cap)) := hide (heap_alloc_new w _)
  have hsz : (w.alloc (.cells #[.int .i64 lo, .slice ao es.length cap] 24)).heap.size = w.heap.size + 1 := by simp
  obtain ⟨R, HR⟩ : ∃ R, Hid (ckC lo es = R) := ⟨_, hide rfl⟩
  rw [unhide HR]
  clear hE hal
  go_enter Try.func9, Try.ntmps9
  go_upto_region 1 with fail
  generalize (w.alloc (.cells #[.int .i64 lo, .slice ao es.length cap] 24)) = W0 at HA HC hsz ⊢
  have c0 := (unhide HC).c0
  have c1 := (unhide HC).c1
  by_cases h0 : lo < 0
  · have HR2 : Hid (R = (0, 5)) := hide (by rw [← unhide HR]; unfold ckC; rw [if_pos (Or.inl h0)])
    go_wp2
    go_ret2
    exact ⟨by rw [unhide HR2]; rfl, unhide HA⟩
  · by_cases h16 : 16 < lo
    · have h16' : lo > 16 := h16
      have HR2 : Hid (R = (0, 5)) := hide (by rw [← unhide HR]; unfold ckC; rw [if_pos (Or.inr h16)])
      go_wp2
      go_ret2
      exact ⟨by rw [unhide HR2]; rfl, unhide HA⟩
    · have h16' : ¬ lo > 16 := h16
      by_cases h4 : 4096 < es.length
      · have h4' : ((es.length : Nat) : Int) > 4096 := by omega
        have HR2 : Hid (R = (4096, 4)) := hide (by rw [← unhide HR]; unfold ckC; rw [if_neg (by omega), if_pos h4])
        go_wp2
        go_ret2
        exact ⟨by rw [unhide HR2]; rfl, unhide HA⟩
      · have h4' : ¬ ((es.length : Nat) : Int) > 4096 := by omega
        obtain ⟨ln, rfl⟩ : ∃ ln : Nat, lo = (ln : Int) := ⟨lo.toNat, by omega⟩
        have hln : ln ≤ 16 := by omega
        have HR0 : Hid (ckL ln (es.drop 0) 0 (-1) = R) := hide (by rw [← unhide HR]; unfold ckC; rw [if_neg (by omega), if_neg h4]; rfl)
        clear HR
        go_wp2
        go_loopw [4, 24] (fun a i wr => ∃ (k : Nat) (ah : Int), k ≤ es.length ∧ i = .int .i64 (k : Int) ∧ a = .int .i64 ah ∧ Hid (ckL ln (es.drop k) k ah = R) ∧ Hid (Below W0.heap.size W0 wr)) (fun _ i _ => es.length - (intOf i).toNat)
        case atStart => exact ⟨0, -1, by omega, rfl, rfl, HR0, hide (Below.refl _ _)⟩
        case round =>
          clear HR0 c0 c1
          obtain ⟨k, ah, hk, rfl, rfl, HR, HB⟩ := hrel
          have HBw : Hid (Below w.heap.size w wr) := hide ((unhide HA).trans ((unhide HB).mono (by omega)))
          by_cases hkl : k < es.length
          · have j1 : ((k : Nat) : Int) < ((es.length : Nat) : Int) := by omega
            obtain ⟨x, hx⟩ : ∃ x, es[k]? = some x := ⟨_, List.getElem?_eq_getElem hkl⟩
            have hxo : FrOk x.fr := ho x (List.mem_of_getElem? hx)
            obtain ⟨b, off, rfl, hrg⟩ := ((unhide HE).below rfl (unhide HBw)) k x hx
            have hll := enL_len hxo
            have HRG := hide hrg
            have hd : es.drop k = x :: es.drop (k + 1) := by
              rw [List.drop_eq_getElem_cons hkl]
              rw [List.getElem?_eq_getElem hkl] at hx
              injection hx with hx
              rw [hx]
            rw [hd, ckL] at HR
            have HN : Hid (EAt (wr.alloc (.cells (enA enZ) 42)) wr.heap.size enZ) := hide (EAt.new wr enZ)
            have HN2 := hide ((unhide HN).row x)
            have HB2 : Hid (Below W0.heap.size W0 ((wr.alloc (.cells (enA enZ) 42)).setRow wr.heap.size (enA x))) := hide (below_setRow' ((unhide HB).alloc (unhide HB).size _) (unhide HB).size _)
            clear hrg hd hx
            go_upto_region 9 with (first | (refine wpList_load_mid rfl 42 (.tmp 27) rfl b (off + k * 28) rfl (enL x) _ (unhide HRG) Try.underlying42 rfl (by rw [hll]; kernel_rfl) ?_) | (refine wpList_store_row rfl 42 (.tmp 6) (.tmp 28) rfl wr.heap.size (enA x) rfl rfl 42 (enA enZ) (unhide HN) (sizeEn hxo) (sizeEqEn enZ_ok hxo) (enA_one _) ?_))
            rw [enZ_eq]
            generalize hV : (wr.alloc (.cells (enA enZ) 42)).setRow wr.heap.size (enA x) = V at HN2 HB2 ⊢
            have hcp : EAt V wr.heap.size x := unhide HN2
            have e0 := hcp.c0
            have HCV : Hid (CAt V w.heap.size (ln : Int) (.slice (some ⟨b, off, none⟩) es.length cap)) := hide (((unhide HB2).block w.heap.size (by omega)).trans (unhide HC))
            have cc := (unhide HCV).c0
            have HFO := hide (follows_any ah x.at_ V)
            have HFT := hide (fits_any ln x V hln hxo)
            have hlt := (unhide HN2).lt
            have HBV : Hid (Below w.heap.size w V) := hide ((unhide HA).trans ((unhide HB2).mono (by omega)))
            clear hV hcp
            by_cases ha : aftD x.at_ ah = 0
            · rw [if_neg (by simpa using ha)] at HR
              rw [ha] at HFO
              by_cases hb : bodD ln x = 0
              · rw [if_neg (by simpa using hb)] at HR
                rw [hb] at HFT
                clear ha hb
                go_wp2_with (first | (go_at_call 19; refine (unhide HFO).mono ?_; rintro e V1 ⟨rfl, rfl⟩) | (refine wpList_load_rowG (by kernel_rfl) 42 (.tmp 6) rfl wr.heap.size rfl 42 (enA x) (0, 0) _ (unhide HN2) Try.underlying42 rfl (sizeEn hxo) ?_) | fail)
                refine (unhide HFT).mono ?_
                rintro e V2 ⟨rfl, hB5⟩
                have e0' := (hB5.cell (p := ⟨wr.heap.size, 0, none⟩) hlt).trans e0
                have HB5 := hide ((unhide HB2).trans (hB5.mono (unhide HB2).size))
                clear hB5
                go_wp2
                go_roundw
                case rel => exact ⟨k + 1, x.at_, by omega, by go_num, rfl, HR, HB5⟩
                case measure => simp [intOf]; omega
              · rw [if_pos hb] at HR
                have b3 : (bodD ln x != 0) = true := bne_t hb
                clear ha
                go_wp2_with (first | (go_at_call 19; refine (unhide HFO).mono ?_; rintro e V1 ⟨rfl, rfl⟩) | (refine wpList_load_rowG (by kernel_rfl) 42 (.tmp 6) rfl wr.heap.size rfl 42 (enA x) (0, 0) _ (unhide HN2) Try.underlying42 rfl (sizeEn hxo) ?_) | fail)
                refine (unhide HFT).mono ?_
                rintro e V2 ⟨rfl, hB5⟩
                have HB5 := hide ((unhide HBV).trans (hB5.mono (unhide HBV).size))
                generalize bodD ln x = er at b3 HR ⊢
                clear hB5 hb
                go_wp2
                go_ret2
                exact ⟨by rw [← unhide HR]; rfl, unhide HB5⟩
            · rw [if_pos ha] at HR
              have b3 : (aftD x.at_ ah != 0) = true := bne_t ha
              generalize aftD x.at_ ah = er at b3 HR HFO
              go_wp2_with (go_at_call 19; refine (unhide HFO).mono ?_; rintro e V1 ⟨rfl, rfl⟩)
              go_ret2
              exact ⟨by rw [← unhide HR]; rfl, unhide HBV⟩
          · obtain rfl : k = es.length := by omega
            have HR2 : Hid ((0, 0) = R) := hide (by have := unhide HR; rw [List.drop_length] at this; exact this)
            go_wp2
            go_ret2
            exact ⟨by rw [← unhide HR2]; rfl, unhide HBw⟩
end Go.Proofs.Ytednnfmomhallaa
