/-
  The contract of the reference's Check. Conditions: the entries lie there, each with 24 slots; there are fewer than 2^42.
-/
import Derived.Test.YtednnfmomhallaaCz3
namespace Go.Proofs.Ytednnfmomhallaa
open Go.RowKit

set_option maxRecDepth 20000 in
set_option maxHeartbeats 2000000 in
theorem refCheckC_any (lo : Int) (ao : Option Addr) (cap : Nat) (es : List En) (w : World) (hE : EsAt w ao es) (ho : EsOk es) (hl : es.length ≤ 4398046511104) :
    Calls Try.prog 10 #[.agg #[.int .i64 lo, .slice ao es.length cap]] w fun e w' => e = .returned (.tuple #[.int .i64 ((ckC lo es).1 : Int), .int .i64 (ckC lo es).2]) ∧ Below w.heap.size w w' := by
  have HE := hide hE
  have hal := ((Below.refl w.heap.size w).alloc (Nat.le_refl _) (.cells #[.int .i64 lo, .slice ao es.length cap] 24))
  have HA := hide hal
  have HC : Hid (CAt (w.alloc (.cells #[.int .i64 lo, .slice ao es.length cap] 24)) w.heap.size lo (.slice ao es.length cap)) := hide (heap_alloc_new w _)
  have hsz : (w.alloc (.cells #[.int .i64 lo, .slice ao es.length cap] 24)).heap.size = w.heap.size + 1 := by simp
  obtain ⟨R, HR⟩ : ∃ R, Hid (ckC lo es = R) := ⟨_, hide rfl⟩
  rw [unhide HR]
  clear hE hal
  go_enter Try.func10, Try.ntmps10
  go_upto_region 1 with fail
  generalize (w.alloc (.cells #[.int .i64 lo, .slice ao es.length cap] 24)) = W0 at HA HC hsz ⊢
  have c0 := (unhide HC).c0
  have c1 := (unhide HC).c1
  by_cases h0 : lo < 0
  · have HR2 : Hid (R = (0, 5)) := hide (by rw [← unhide HR]; unfold ckC; rw [if_pos (Or.inl h0)])
    go_wp2
    go_ret2
    exact ⟨by rw [unhide HR2]; rfl, unhide HA⟩
  · by_cases h16 : 16 < lo
    · have h16' : lo > 16 := h16
      have HR2 : Hid (R = (0, 5)) := hide (by rw [← unhide HR]; unfold ckC; rw [if_pos (Or.inr h16)])
      go_wp2
      go_ret2
      exact ⟨by rw [unhide HR2]; rfl, unhide HA⟩
    · have h16' : ¬ lo > 16 := h16
      by_cases h4 : 4096 < es.length
      · have h4' : ((es.length : Nat) : Int) > 4096 := by omega
        have HR2 : Hid (R = (4096, 4)) := hide (by rw [← unhide HR]; unfold ckC; rw [if_neg (by omega), if_pos h4])
        go_wp2
        go_ret2
        exact ⟨by rw [unhide HR2]; rfl, unhide HA⟩
      · have h4' : ¬ ((es.length : Nat) : Int) > 4096 := by omega
        obtain ⟨ln, rfl⟩ : ∃ ln : Nat, lo = (ln : Int) := ⟨lo.toNat, by omega⟩
        have hln : ln ≤ 16 := by omega
        have HR0 : Hid (ckL ln (es.drop 0) 0 (-1) = R) := hide (by rw [← unhide HR]; unfold ckC; rw [if_neg (by omega), if_neg h4]; rfl)
        clear HR
        go_wp2
        go_loopw [4, 5] (fun a i wr => ∃ (k : Nat) (ah : Int), k ≤ es.length ∧ i = .int .i64 (k : Int) ∧ a = .int .i64 ah ∧ Hid (ckL ln (es.drop k) k ah = R) ∧ Hid (Below W0.heap.size W0 wr)) (fun _ i _ => es.length - (intOf i).toNat)
        case atStart => exact ⟨0, -1, by omega, rfl, rfl, HR0, hide (Below.refl _ _)⟩
        case round =>
          clear HR0 c0 c1
          obtain ⟨k, ah, hk, rfl, rfl, HR, HB⟩ := hrel
          have HBw : Hid (Below w.heap.size w wr) := hide ((unhide HA).trans ((unhide HB).mono (by omega)))
          have HCr : Hid (CAt wr w.heap.size (ln : Int) (.slice ao es.length cap)) := hide (((unhide HB).block w.heap.size (by omega)).trans (unhide HC))
          have c0 := (unhide HCr).c0
          have c1 := (unhide HCr).c1
          by_cases hkl : k < es.length
          · have j1 : ((k : Nat) : Int) < ((es.length : Nat) : Int) := by omega
            obtain ⟨x, hx⟩ : ∃ x, es[k]? = some x := ⟨_, List.getElem?_eq_getElem hkl⟩
            have hxo : FrOk x.fr := ho x (List.mem_of_getElem? hx)
            have HEr := hide ((unhide HE).below rfl (unhide HBw))
            obtain ⟨b, off, rfl, hrg⟩ := (unhide HEr) k x hx
            have hll := enL_len hxo
            have HRG := hide hrg
            have q0 : wr.cell? ⟨b, off + k * 28, none⟩ = some (.int .i64 x.at_) := hrg 0 _ rfl
            have hd : es.drop k = x :: es.drop (k + 1) := by
              rw [List.drop_eq_getElem_cons hkl]
              have hx' := hx
              rw [List.getElem?_eq_getElem hkl] at hx'
              injection hx' with hx'
              rw [hx']
            rw [hd, ckL] at HR
            have HFO := hide (fun W => refAfter_any x.at_ ah W)
            have HFT := hide (fun W => refBody_any ln x W hln hxo)
            clear hrg hd
            by_cases ha : aftD x.at_ ah = 0
            · rw [if_neg (by simpa using ha)] at HR
              rw [ha] at HFO
              have HS : Hid (CAt wr.drew w.heap.size (ln : Int) (.slice (some ⟨b, off, none⟩) es.length cap) ∧ wr.drew.rangeAt b (off + k * 28) (enL x)) := hide ⟨unhide HCr, (World.rangeAt_drew _ _ _ _).2 (unhide HRG)⟩
              go_upto_region 11 with (go_at_call 21; refine (unhide HFO _).mono ?_; rintro e V1 ⟨rfl, hV1⟩; subst hV1)
              refine wp_region_held_drew (S := fun w' => CAt w' w.heap.size (ln : Int) (.slice (some ⟨b, off, none⟩) es.length cap) ∧ w'.rangeAt b (off + k * 28) (enL x)) (by kernel_rfl) (unhide HS) (fun hS => ?_)
              have HBd : Hid (Below W0.heap.size W0 V1.drew) := hide (belowD (unhide HB) 1)
              generalize V1.drew = V at hS HBd ⊢
              clear HS
              refine wpAnyH_take (i := 0) (v := .pointer (some ⟨w.heap.size, 0, none⟩)) rfl (by kernel_rfl) (by kernel_rfl) (by kernel_rfl) (fun _ _ _ h => h) (Or.inl ⟨by rfl, fun w _ => by go_simp⟩) hS ?_
              refine wpAnyH_take (i := 1) (v := .int .i64 (ln : Int)) rfl (by kernel_rfl) (by kernel_rfl) (by kernel_rfl) (fun _ _ _ h => h) (Or.inl ⟨by rfl, fun w hS => by have h0 := hS.1.c0; go_simp⟩) hS ?_
              refine wpAnyH_take (i := 2) (v := .pointer (some ⟨w.heap.size, 1, none⟩)) rfl (by kernel_rfl) (by kernel_rfl) (by kernel_rfl) (fun _ _ _ h => h) (Or.inl ⟨by rfl, fun w _ => by go_simp⟩) hS ?_
              refine wpAnyH_take (i := 3) (v := .slice (some ⟨b, off, none⟩) es.length cap) rfl (by kernel_rfl) (by kernel_rfl) (by kernel_rfl) (fun _ _ _ h => h) (Or.inl ⟨by rfl, fun w hS => by have h0 := hS.1.c1; go_simp⟩) hS ?_
              refine wpAnyH_take (i := 4) (v := .int .i64 (k : Int)) rfl (by kernel_rfl) (by kernel_rfl) (by kernel_rfl) (fun _ _ _ h => h) (Or.inl ⟨by rfl, fun w _ => by go_simp⟩) hS ?_
              refine wpAnyH_take (i := 5) (v := .pointer (some ⟨b, off + k * 28, none⟩)) rfl (by kernel_rfl) (by kernel_rfl) (by kernel_rfl) (fun _ _ _ h => h) (Or.inl ⟨by rfl, fun w _ => by go_simp⟩) hS ?_
              refine wpAnyH_take (i := 6) (v := .agg (enA x)) rfl (by kernel_rfl) (by kernel_rfl) (by kernel_rfl) (fun _ _ _ h => h) (yieldsIf_load_mid (by rfl) 42 _ rfl b (off + k * 28) rfl (enL x) _ (fun _ h => h.2) Try.underlying42 rfl (by rw [hll]; kernel_rfl)) hS ?_
              refine wpAnyH_ready (rs := [7]) (by kernel_rfl) (by simp) ?_
              refine AllReadyH.cons rfl (fun K hK => ?_) AllReadyH.nil
              go_simp
              go_wp2_with (go_at_call 22; refine (unhide HFT V).mono ?_; rintro e V2 ⟨rfl, hB5⟩)
              have hS2 : CAt V2 w.heap.size (ln : Int) (.slice (some ⟨b, off, none⟩) es.length cap) ∧ V2.rangeAt b (off + k * 28) (enL x) := ⟨(hB5.block _ hS.1.lt).trans hS.1, fun j v hj => by have := hS.2 j v hj; exact (hB5.cell (p := ⟨b, off + k * 28 + j, none⟩) (World.block_lt_of_cell? V _ this)).trans this⟩
              refine hK.out _ _ hS2 (fun hS2 => ?_)
              have HB5 := hide ((unhide HBd).trans (hB5.mono (unhide HBd).size))
              have HBw5 : Hid (Below w.heap.size w V2) := hide ((unhide HA).trans ((unhide HB5).mono (by omega)))
              have q1 : V2.cell? ⟨b, off + k * 28, none⟩ = some (.int .i64 x.at_) := hS2.2 0 _ rfl
              have q2 := hS2.1.c1
              clear hK K hS hB5 ha hx
              by_cases hb : bodD ln x = 0
              · rw [if_neg (by simpa using hb)] at HR
                rw [hb]
                clear hb
                refine wpAnyH_take (i := 8) (v := .int .i64 0) rfl (by kernel_rfl) (by kernel_rfl) (by kernel_rfl) (fun _ _ _ h => h) (Or.inl ⟨by rfl, fun w _ => by go_simp⟩) hS2 ?_
                refine wpAnyH_done (by kernel_rfl) ?_ _
                clear hS2
                go_wp2
                go_roundw
                case rel => exact ⟨k + 1, x.at_, by omega, by go_num, rfl, HR, HB5⟩
                case measure => simp [intOf]; omega
              · rw [if_pos hb] at HR
                have b3 : (bodD ln x != 0) = true := bne_t hb
                generalize bodD ln x = er at b3 HR ⊢
                clear hb
                refine wpAnyH_take (i := 8) (v := .int .i64 er) rfl (by kernel_rfl) (by kernel_rfl) (by kernel_rfl) (fun _ _ _ h => h) (Or.inl ⟨by rfl, fun w _ => by go_simp⟩) hS2 ?_
                refine wpAnyH_done (by kernel_rfl) ?_ _
                clear hS2
                go_wp2
                go_ret2
                exact ⟨by rw [← unhide HR]; rfl, unhide HBw5⟩
            · rw [if_pos ha] at HR
              have b3 : (aftD x.at_ ah != 0) = true := bne_t ha
              have b4 : (aftD x.at_ ah == 0) = false := beq_f ha
              generalize aftD x.at_ ah = er at b3 b4 HR HFO
              clear hx
              go_wp2_with (go_at_call 21; refine (unhide HFO _).mono ?_; rintro e V1 ⟨rfl, rfl⟩)
              go_ret2
              exact ⟨by rw [← unhide HR]; rfl, unhide HBw⟩
          · obtain rfl : k = es.length := by omega
            have HR2 : Hid ((0, 0) = R) := hide (by have := unhide HR; rw [List.drop_length] at this; exact this)
            go_wp2
            go_ret2
            exact ⟨by rw [← unhide HR2]; rfl, unhide HBw⟩
end Go.Proofs.Ytednnfmomhallaa
