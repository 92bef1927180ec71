/-
  The walk of the law HeapLives: it returns true for every life, and writes nothing that was there.
-/
import Derived.Test.YtbbfnampjbdnbaaDoorKHs9
namespace Go.Proofs.YtbbfnampjbdnbaaDoor
open Go.RowKit
set_option maxRecDepth 20000
set_option linter.unusedVariables false
set_option linter.unusedSimpArgs false

theorem RpAt.mono {B B' : Nat} {W : World} {g : Nat} {p : Rp} (H : RpAt B W g p) (hB : B' ≤ B) : RpAt B' W g p := ⟨Nat.le_trans hB H.lo, H.box, rowMono H.own hB, fun x hx => rowMono (H.pls x hx) hB, H.nd⟩
theorem ldsD_same {T G : List Cl} (h : SameT T G) (hT : madeD T = true) (hG : madeD G = true) {c : Nat} (hc : c < T.length) : ldsD G c = ldsD T c := by
  unfold ldsD
  rw [← fields_same hG (c := (c : Int)) (by have := h.1; omega), ← fields_same hT (c := (c : Int)) (by omega), h.fieldsD]
theorem both_new {T G : List Cl} (h : SameT T G) (hT : madeD T = true) (hG : madeD G = true) {room : Int} (hr : 0 ≤ room ∧ room ≤ 4096) {lv : Value} {L : List Ld} (hL : L.length = G.length) (hx : ∀ (c : Nat) (x : Ld), L[c]? = some x → x.bs = ldsD G c) : Both T (newH room lv L) [] := by
  have hl := h.1
  refine ⟨⟨rfl, rfl⟩, newH_ok hr lv (by have := made_le hG; omega), by show L.length = T.length; omega, fun c x hcx => ?_⟩
  have hcl : c < L.length := (List.getElem?_eq_some_iff.1 hcx).1
  rw [hx c x hcx]
  exact ldsD_same h hT hG (by omega)
set_option maxRecDepth 20000 in
set_option maxHeartbeats 8000000 in
theorem walkHeapLives {w : World} (hW : WordsAt w) (ao : Option Addr) (cap : Nat) (T : List Cl) (room : Int) (xo : Option Addr) (xc : Nat) (X : List Ac) (hT : TabAt w ao T) (hcap : T.length ≤ cap) (hz : T.length * 48 ≤ 140737488351232) (hX : AcsAt w xo X) (hXl : X.length * 56 ≤ 140737488351232) :
    Calls Tryd.prog 3 #[.agg #[.slice ao T.length cap, .int .i64 room, .slice xo X.length xc]] w fun e w' => e = .returned (.bool true) ∧ Below w.heap.size w w' := by
  have hal : Below w.heap.size w (w.alloc (.cells #[.slice ao T.length cap, .int .i64 room, .slice xo X.length xc] 25)) := (Below.refl _ _).alloc (Nat.le_refl _) _
  have HB1 := hide hal
  have HL1 : Hid (Bx (w.alloc (.cells #[.slice ao T.length cap, .int .i64 room, .slice xo X.length xc] 25)) w.heap.size 25 #[.slice ao T.length cap, .int .i64 room, .slice xo X.length xc]) := hide (heap_alloc_new w _)
  have HCS := hide (ClassesO_any ao cap T _ (hT.below hal) hz)
  have HTT := hide hT
  have HXX := hide hX
  have HWW := hide hW
  have HZ := hide hz
  have HXL : Hid (X.length ≤ 2600000000000) := hide (by omega)
  have hxn : X.length ≤ 2600000000000 := by omega
  clear hal hT hX hW hz hXl hcap
  go_enter Tryd.func3, Tryd.ntmps3
  go_upto_region 1 with fail
  generalize w.alloc (.cells #[.slice ao T.length cap, .int .i64 room, .slice xo X.length xc] 25) = W1 at HB1 HL1 HCS ⊢
  obtain ⟨lq, HLQ⟩ : ∃ lq, lq = w.heap.size := ⟨_, rfl⟩
  rw [← HLQ] at HL1 ⊢
  clear HLQ
  have k0 := (unhide HL1).c 0 (v := .slice ao T.length cap) rfl
  go_wp2_with fail
  refine (unhide HCS).mono ?_
  rintro e W2 ⟨ga, gc, G, rfl, hTG, hSM, hB12, hcG, hOC, hFF⟩
  have HB2 := hide ((unhide HB1).trans (hB12.mono (unhide HB1).size))
  have HL2 := hide ((unhide HL1).below hB12)
  have HSM := hide hSM
  have HSP : Hid (G.length = 0 ∨ ∃ gb, ga = some ⟨gb, 0, none⟩ ∧ SpAt W1.heap.size W2 G gb) := hide (by
    by_cases h0 : G.length = 0
    · exact Or.inl h0
    · obtain ⟨gb, h1, h2⟩ := SpAt.new hOC hFF (by omega); exact Or.inr ⟨gb, h1, h2⟩)
  have HFL : Hid (∀ y ∈ G, y.fs.length ≤ 9223372036854775807) := hide (fun y hy => by
    rcases (hFF y hy).2 with ⟨_, h2⟩ | ⟨_, _, _, _, _, _, h4, h5, _⟩
    · omega
    · unfold maxLen at h5; omega)
  have HN := hide (NewE_any ga gc G room W2 hTG hcG ((unhide HWW).below (unhide HB2)) (by rw [hSM.1]; exact unhide HZ))
  have HWS1 : Hid (w.heap.size ≤ W1.heap.size) := hide (unhide HB1).size
  have HW12 : Hid (W1.heap.size ≤ W2.heap.size) := hide hB12.size
  have hGn : G.length ≤ 2932031007403 := by have := unhide HZ; have := hSM.1; omega
  clear hTG hSM hB12 hcG hOC hFF k0 HCS HB1 HL1
  have k1 := (unhide HL2).c 1 (v := .int .i64 room) rfl
  go_wp2_with fail
  refine (unhide HN).mono ?_
  rintro e W3 ⟨hN, hB23⟩
  have HB3 := hide ((unhide HB2).trans (hB23.mono (unhide HB2).size))
  have HL3 := hide ((unhide HL2).below hB23)
  have HB23 := hide hB23
  have HR := hide (refNew_any ao cap T room W3 ((unhide HTT).below (unhide HB3)) (unhide HZ))
  clear k1 HN hB23
  have k0 := (unhide HL3).c 0 (v := .slice ao T.length cap) rfl
  have k1 := (unhide HL3).c 1 (v := .int .i64 room) rfl
  rcases hN with ⟨hr, rfl⟩ | ⟨hr0, hr1, n, er, hF, rfl⟩ | ⟨hr0, hr1, hmG, g, lv, L, rfl, hHp, hLl, hLs⟩
  · have HRO := hide hr
    clear hr
    go_wp2_with fail
    refine (unhide HR).mono ?_
    rintro e W4 ⟨hM, hB34⟩
    have HB4 := hide ((unhide HB3).trans (hB34.mono (unhide HB3).size))
    clear hB34 k0 k1
    rcases hM with ⟨_, rfl⟩ | ⟨h0, h1, _⟩ | ⟨h0, h1, _⟩
    · go_wp2
      go_ret
      exact ⟨rfl, unhide HB4⟩
    · rcases unhide HRO with h | h <;> omega
    · rcases unhide HRO with h | h <;> omega
  · have HF := hide hF
    clear hF
    go_wp2_with fail
    refine (unhide HR).mono ?_
    rintro e W4 ⟨hM, hB34⟩
    have HB4 := hide ((unhide HB3).trans (hB34.mono (unhide HB3).size))
    clear hB34 k0 k1
    rcases hM with ⟨h0, _⟩ | ⟨_, _, m, er2, hF2, rfl⟩ | ⟨_, _, hmT, _⟩
    · rcases h0 with h | h <;> omega
    · obtain ⟨_, rfl⟩ := first_one (unhide HSM) (Or.inr (unhide HF)) (Or.inr hF2)
      clear hF2
      go_wp2
      go_ret
      exact ⟨rfl, unhide HB4⟩
    · obtain ⟨_, h1⟩ := first_one (unhide HSM) (Or.inr (unhide HF)) (Or.inl ⟨rfl, rfl, hmT⟩)
      exact absurd h1 (unhide HF).one.2.1
  · have HHP := hide hHp
    have HLD := hide (And.intro hmG (And.intro hLl hLs))
    clear hmG hHp hLl hLs
    go_wp2_with fail
    refine (unhide HR).mono ?_
    rintro e W4 ⟨hM, hB34⟩
    have HB4 := hide ((unhide HB3).trans (hB34.mono (unhide HB3).size))
    clear k0 k1
    rcases hM with ⟨h0, _⟩ | ⟨_, _, m, er2, hF2, rfl⟩ | ⟨_, _, hmT, d, rfl, hRp⟩
    · rcases h0 with h | h <;> omega
    · obtain ⟨_, h1⟩ := first_one (unhide HSM) (Or.inl ⟨rfl, rfl, (unhide HLD).1⟩) (Or.inr hF2)
      exact absurd h1.symm hF2.one.2.1
    · have HPr0 : Hid (Pr T (.slice ao T.length cap) w.heap.size W4 g d (newH room lv L) ⟨.slice ao T.length cap, room, .slice none 0 0, []⟩) := hide ⟨((unhide HHP).mono (unhide HB2).size).below hB34, hRp.mono (unhide HB3).size, both_new (unhide HSM) hmT (unhide HLD).1 ⟨hr0, hr1⟩ (unhide HLD).2.1 (unhide HLD).2.2, rfl, rfl⟩
      have HMT := hide hmT
      have HSP4 : Hid (G.length = 0 ∨ ∃ gb, ga = some ⟨gb, 0, none⟩ ∧ SpAt W1.heap.size W4 G gb) := hide (by
        rcases unhide HSP with h | ⟨gb, h1, h2⟩
        · exact Or.inl h
        · exact Or.inr ⟨gb, h1, (h2.below (unhide HB23)).below hB34⟩)
      have HL4 := hide ((unhide HL3).below hB34)
      have HW14 : Hid (W1.heap.size ≤ W4.heap.size) := hide (Nat.le_trans (unhide HW12) (Nat.le_trans (unhide HB23).size hB34.size))
      have HPB : Hid (Bx (W4.alloc (.cells #[.pointer none, .pointer none] 35)) W4.heap.size 35 #[.pointer none, .pointer none]) := hide (heap_alloc_new W4 _)
      have HQ5 : Hid (Bx ((W4.alloc (.cells #[.pointer none, .pointer none] 35)).setRow W4.heap.size #[.pointer (some ⟨g, 0, none⟩), .pointer (some ⟨d, 0, none⟩)]) W4.heap.size 35 #[.pointer (some ⟨g, 0, none⟩), .pointer (some ⟨d, 0, none⟩)]) := hide (setRow_heap _ _ _ _ _ _ (unhide HPB))
      have HB45 : Hid (Below W4.heap.size W4 ((W4.alloc (.cells #[.pointer none, .pointer none] 35)).setRow W4.heap.size #[.pointer (some ⟨g, 0, none⟩), .pointer (some ⟨d, 0, none⟩)])) := hide (below_row ((Below.refl _ _).alloc (Nat.le_refl _) _) (Nat.le_refl _) _)
      clear hRp hmT hB34 HHP HLD HSP HL3 HL2 HR
      generalize newH room lv L = h0 at HPr0
      go_upto_region 9 with (refine wpList_store_row rfl 35 (.tmp 8) (.tmp 45) rfl W4.heap.size #[.pointer (some ⟨g, 0, none⟩), .pointer (some ⟨d, 0, none⟩)] rfl rfl 35 #[.pointer none, .pointer none] (unhide HPB) (by kernel_rfl) rfl (by simp [Value.oneCell']) ?_)
      generalize (W4.alloc (.cells #[.pointer none, .pointer none] 35)).setRow W4.heap.size #[.pointer (some ⟨g, 0, none⟩), .pointer (some ⟨d, 0, none⟩)] = W5 at HQ5 HB45 ⊢
      have HPr5 := hide ((unhide HPr0).below (unhide HB45))
      have HL5 := hide ((unhide HL4).below (unhide HB45))
      have HB5 := hide ((unhide HB4).trans ((unhide HB45).mono (unhide HB4).size))
      have HSP5 : Hid (G.length = 0 ∨ ∃ gb, ga = some ⟨gb, 0, none⟩ ∧ SpAt W1.heap.size W5 G gb) := hide (by
        rcases unhide HSP4 with h | ⟨gb, h1, h2⟩
        · exact Or.inl h
        · exact Or.inr ⟨gb, h1, h2.below (unhide HB45)⟩)
      generalize W4.heap.size = q at HQ5 ⊢
      clear HPr0 HSP4 HL4 HPB HB45 HB4 HB23
      go_wp2_with fail
      go_loopw [48] (fun i wr => ∃ k : Nat, k ≤ G.length ∧ i = .int .i64 (k : Int) ∧ Hid (G.length = 0 ∨ ∃ gb, ga = some ⟨gb, 0, none⟩ ∧ SpAt W1.heap.size wr G gb) ∧ Hid (Kp W1.heap.size [38, 41] W5 wr)) (fun i _ => G.length - (intOf i).toNat)
      case atStart => exact ⟨0, by omega, rfl, HSP5, hide (Kp.refl _ _ _)⟩
      case round =>
        clear HSP5
        obtain ⟨k, hk, rfl, HSPr, HKr⟩ := hrel
        by_cases hkl : k < G.length
        · have i1 : ((k : Nat) : Int) < ((G.length : Nat) : Int) := by omega
          rcases unhide HSPr with h | ⟨gb, rfl, hsp⟩
          · omega
          · obtain ⟨y, hy⟩ : ∃ y, G[k]? = some y := ⟨_, List.getElem?_eq_getElem hkl⟩
            have HY := hide hy
            obtain ⟨s1, s2, s3, u, s4⟩ := hsp.name hkl (.string ⟨#[115, 112, 111, 105, 108, 116]⟩)
            have HS1 := hide s1
            have HK1 := hide ((unhide HKr).trans s2)
            clear hsp s1 s2 hy HSPr
            go_upto_region 13 with fail
            clear s3 s4
            generalize wr.setCell ⟨gb, k * 3, none⟩ (.string ⟨#[115, 112, 111, 105, 108, 116]⟩) = Wa at HS1 HK1 ⊢
            have c2 := (unhide HS1).at2 (unhide HY)
            have hyl : y.fs.length ≤ 9223372036854775807 := unhide HFL y (List.mem_of_getElem? (unhide HY))
            go_wp2_with fail
            go_loopw [61] (fun i wr => ∃ j : Nat, j ≤ y.fs.length ∧ i = .int .i64 (j : Int) ∧ Hid (SpAt W1.heap.size wr G gb) ∧ Hid (Kp W1.heap.size [38, 41] W5 wr)) (fun i _ => y.fs.length - (intOf i).toNat)
            case atStart => exact ⟨0, by omega, rfl, HS1, HK1⟩
            case round =>
              clear HS1 HK1 c2
              obtain ⟨j, hj, rfl, HS2, HK2⟩ := hrel
              by_cases hjl : j < y.fs.length
              · have i2 : ((j : Nat) : Int) < ((y.fs.length : Nat) : Int) := by omega
                have c3 := (unhide HS2).at2 (unhide HY)
                obtain ⟨fb, hfo, f1, f2, f3, u, f4⟩ := (unhide HS2).field (unhide HY) hjl (.int .u8 99)
                rw [hfo] at c3
                have HS3 := hide f1
                have HK3 := hide ((unhide HK2).trans f2)
                clear f1 f2 hfo
                go_wp2
                go_roundw
                case rel => exact ⟨j + 1, by omega, by go_num, HS3, HK3⟩
                case measure => simp [intOf]; omega
              · have i2 : ¬ ((j : Nat) : Int) < ((y.fs.length : Nat) : Int) := by omega
                go_wp2
                go_roundw
                case rel => exact ⟨k + 1, by omega, by go_num, hide (Or.inr ⟨gb, rfl, unhide HS2⟩), HK2⟩
                case measure => simp [intOf]; omega
        · have i1 : ¬ ((k : Nat) : Int) < ((G.length : Nat) : Int) := by omega
          have HPr6 : Hid (Pr T (.slice ao T.length cap) w.heap.size wr g d h0 ⟨.slice ao T.length cap, room, .slice none 0 0, []⟩) := hide ⟨(unhide HPr5).hp.kp (unhide HKr) (by decide), (unhide HPr5).rp.kp (unhide HKr) (by decide), (unhide HPr5).bo, (unhide HPr5).rm, (unhide HPr5).lv⟩
          have HL6 := hide ((unhide HL5).kp (unhide HKr) (by decide))
          have HQ6 := hide ((unhide HQ5).kp (unhide HKr) (by decide))
          have HB6 := hide ((unhide HB5).trans ((unhide HKr).bel.mono (unhide HWS1)))
          have k2 := (unhide HL6).c 2 (v := .slice xo X.length xc) rfl
          clear HPr5 HL5 HQ5 HB5 HSPr HKr
          go_wp2_with fail
          clear k2
          go_loopw [77] (fun i wr => ∃ (k : Nat) (h : Hm) (p : Rp), k ≤ X.length ∧ i = .int .i64 (k : Int) ∧ Hid (Pr T (.slice ao T.length cap) w.heap.size wr g d h p) ∧ Hid (p.R.length ≤ k) ∧ Hid (Below w.heap.size w wr) ∧ Hid (Bx wr q 35 #[.pointer (some ⟨g, 0, none⟩), .pointer (some ⟨d, 0, none⟩)])) (fun i _ => X.length - (intOf i).toNat)
          case atStart => exact ⟨0, h0, _, by omega, rfl, HPr6, hide (Nat.zero_le _), HB6, HQ6⟩
          case round =>
            clear HPr6 HB6 HQ6 HL6
            obtain ⟨k, h, p, hk, rfl, HPr, HLN, HBr, HQr⟩ := hrel
            by_cases hlt : k < X.length
            · have i2 : ((k : Nat) : Int) < ((X.length : Nat) : Int) := by omega
              obtain ⟨x, hx⟩ : ∃ x, X[k]? = some x := ⟨_, List.getElem?_eq_getElem hlt⟩
              obtain ⟨b, off, rfl, ha0⟩ := unhide HXX k x hx
              have HA0 := hide ha0
              have ha := ha0.below (unhide HBr)
              have c0 := ha.c0
              have c1 := ha.c1
              have c2 := ha.c2
              have c3 := ha.c3
              have c4 := ha.c4
              have hal : Below wr.heap.size wr (wr.alloc (.cells #[.int .i64 x.kd, .int .i64 x.a, .int .i64 x.b, .int .i64 x.c, .slice x.ro x.R.length x.rc] 44)) := (Below.refl _ _).alloc (Nat.le_refl _) _
              have HBA : Hid (Bx (wr.alloc (.cells #[.int .i64 x.kd, .int .i64 x.a, .int .i64 x.b, .int .i64 x.c, .slice x.ro x.R.length x.rc] 44)) wr.heap.size 44 #[.int .i64 x.kd, .int .i64 x.a, .int .i64 x.b, .int .i64 x.c, .slice x.ro x.R.length x.rc]) := hide (heap_alloc_new wr _)
              have HPa := hide ((unhide HPr).below hal)
              have HBa := hide ((unhide HBr).trans (hal.mono (unhide HBr).size))
              have HQa := hide ((unhide HQr).below hal)
              clear ha hx hal ha0
              go_upto_region 22 with fail
              clear c0 c1 c2 c3 c4
              generalize wr.alloc (.cells #[.int .i64 x.kd, .int .i64 x.a, .int .i64 x.b, .int .i64 x.c, .slice x.ro x.R.length x.rc] 44) = Wa at HBA HPa HBa HQa ⊢
              generalize wr.heap.size = gb at HBA ⊢
              have b0 := (unhide HBA).c 0 (v := .int .i64 x.kd) rfl
              have b1 := (unhide HBA).c 1 (v := .int .i64 x.a) rfl
              have b2 := (unhide HBA).c 2 (v := .int .i64 x.b) rfl
              have b3 := (unhide HBA).c 3 (v := .int .i64 x.c) rfl
              have b4 := (unhide HBA).c 4 (v := .slice x.ro x.R.length x.rc) rfl
              have p0 := (unhide HQa).c 0 (v := .pointer (some ⟨g, 0, none⟩)) rfl
              have p1 := (unhide HQa).c 1 (v := .pointer (some ⟨d, 0, none⟩)) rfl
              have HACT := hide (act_any (cap := cap) w g d h p x.kd x.a x.b x.c x.ro x.rc x.R Wa (unhide HPa) (unhide HBa) (unhide HTT) (unhide HZ) (unhide HMT) (by have := unhide HLN; omega) (unhide HA0).rts (unhide HA0).fit (unhide HA0).hi)
              go_wp2_with fail
              refine (unhide HACT).mono ?_
              rintro e W7 ⟨rfl, hkp, h', p', hP7, hlen7⟩
              have HP7 := hide hP7
              have HLN7 : Hid (p'.R.length ≤ k + 1) := hide (by have := unhide HLN; omega)
              have HB7 := hide ((unhide HBa).trans hkp.bel)
              have HQ7 := hide ((unhide HQa).kp hkp (by decide))
              clear hP7 hlen7 hkp b0 b1 b2 b3 b4 p0 p1 HACT
              go_wp2
              go_roundw
              case rel => exact ⟨k + 1, h', p', by omega, by go_num, HP7, HLN7, HB7, HQ7⟩
              case measure => simp [intOf]; omega
            · have i2 : ¬ ((k : Nat) : Int) < ((X.length : Nat) : Int) := by omega
              have hln : p.R.length ≤ 2600000000000 := by have := unhide HLN; omega
              go_wp2_with fail
              have HD : Hid (Below wr.heap.size wr wr.drew) := hide (belowD (Below.refl _ _) 1)
              have HS := hide (fun (W : World) (hb : Below wr.heap.size wr W) => (unhide HQr).below hb)
              have HLV := hide (refLive_any w.heap.size d p wr.drew ((unhide HPr).rp.below (unhide HD)) (unhide HPr).u4 (by omega))
              have hll : (livR p.R).length ≤ 4096 := by have := livR_len p.R p.R.length; rw [List.take_of_length_le (Nat.le_refl _)] at this; have := (unhide HPr).u4; omega
              obtain ⟨LL, HLL⟩ : ∃ LL, Hid (livR p.R = LL) := ⟨_, hide rfl⟩
              rw [unhide HLL] at HLV hll
              refine wp_region_held_drew (S := fun w' => Bx w' q 35 #[.pointer (some ⟨g, 0, none⟩), .pointer (some ⟨d, 0, none⟩)]) (by kernel_rfl) (unhide HS _ (unhide HD)) (fun hS => ?_)
              generalize wr.drew = Wd at hS HD HLV ⊢
              refine wpAnyH_take (i := 0) (v := .agg #[.pointer (some ⟨g, 0, none⟩), .pointer (some ⟨d, 0, none⟩)]) rfl (by kernel_rfl) (by kernel_rfl) (by kernel_rfl) (fun _ _ _ h => h) (yieldsIf_load_mid (by rfl) 35 _ rfl q 0 rfl _ _ (fun _ h => box_rangeH h) Tryd.underlying35 rfl (by kernel_rfl)) hS ?_
              go_simp
              refine wpAnyH_take (i := 1) (v := .pointer (some ⟨d, 0, none⟩)) rfl (by kernel_rfl) (by kernel_rfl) (by kernel_rfl) (fun _ _ _ h => h) (Or.inl ⟨by rfl, fun w _ => by go_simp⟩) hS ?_
              go_simp
              refine wpAnyH_ready (rs := [2]) (by kernel_rfl) (by simp) ?_
              refine AllReadyH.cons rfl (fun K hK => ?_) AllReadyH.nil
              go_simp
              go_wp2_with (go_at_call 9; refine (unhide HLV).mono ?_; rintro e Wx ⟨v1, rfl, hO1, hb1⟩)
              have HDx := hide ((unhide HD).trans (hb1.mono (unhide HD).size))
              obtain ⟨a1, c1, rfl, hj1, _⟩ := hO1.at
              have HLK := hide (look_any w.heap.size g d h p a1 c1 LL Wx ((unhide HPr).below (unhide HDx)) (by omega) hj1 (by omega))
              refine hK.out _ _ (unhide HS _ (unhide HDx)) (fun hS2 => ?_)
              clear hK K hO1 hb1 hj1
              refine wpAnyH_ready (rs := [3]) (by kernel_rfl) (by simp) ?_
              refine AllReadyH.cons rfl (fun K hK => ?_) AllReadyH.nil
              go_simp
              go_wp2_with (go_at_call 8; refine (unhide HLK).mono ?_; rintro e Wz ⟨rfl, hbz⟩)
              have HDz := hide ((unhide HDx).trans (hbz.mono (unhide HDx).size))
              have HBz := hide ((unhide HBr).trans ((unhide HDz).mono (unhide HBr).size))
              refine hK.out _ _ (unhide HS _ (unhide HDz)) (fun hS3 => ?_)
              clear hK K hbz
              refine wpAnyH_take (i := 4) (v := .bool true) rfl (by kernel_rfl) (by kernel_rfl) (by kernel_rfl) (fun _ _ _ h => h) (Or.inl ⟨by rfl, fun w _ => by go_simp⟩) hS3 ?_
              go_simp
              refine wpAnyH_done (by kernel_rfl) ?_ _
              go_wp2
              go_ret
              exact ⟨rfl, unhide HBz⟩
end Go.Proofs.YtbbfnampjbdnbaaDoor
