/-
  The document's Decode of a module's file. Conditions: lengths fit.
-/
import Derived.Test.YtibgfdjopikafaaGreatDoorJRH
import Derived.Test.YtibgfdjopikafaaGreatDoorJDC
namespace Go.Proofs.YtibgfdjopikafaaGreatDoor
open Go.RowKit
set_option maxRecDepth 20000
set_option linter.unusedVariables false
set_option linter.unusedSimpArgs false

theorem cut_front {w : World} {ao : Option Addr} {l : List UInt8} (h : BAt w ao l) (k : Nat) : BAt w ao (l.take k) := fun i hi => by
  rw [List.length_take] at hi
  obtain ⟨b, o, e, hc⟩ := h i (by omega)
  refine ⟨b, o, e, ?_⟩
  rw [hc]
  unfold at8
  rw [List.getD_eq_getElem?_getD, List.getD_eq_getElem?_getD, List.getElem?_take_of_lt (by omega)]
set_option maxHeartbeats 16000000 in
theorem refDecode16_any (ao : Option Addr) (c : Nat) (b : List UInt8) (w : World) (hb : BAt w ao b) (hc : b.length ≤ c) :
    Calls Tryz.prog 16 #[.slice ao b.length c] w fun e W => ∃ (y : Md) (at_ : Nat) (er : Int), e = .returned (.tuple #[.agg #[.string y.nm, .slice y.ao y.T.length y.cap, .slice y.fo y.F.length y.fc, .slice y.co y.C.length y.cc], .int .i64 (at_ : Int), .int .i64 er]) ∧ DecR b y at_ er ∧ MdR W w.heap.size y ∧ Below w.heap.size w W := by
  have HO : Hid (Bx (w.alloc (.cells #[.string ⟨#[]⟩, .slice none 0 0, .slice none 0 0, .slice none 0 0] 26)) w.heap.size 26 #[.string ⟨#[]⟩, .slice none 0 0, .slice none 0 0, .slice none 0 0]) := hide (heap_alloc_new w _)
  have HB : Hid (Below w.heap.size w (w.alloc (.cells #[.string ⟨#[]⟩, .slice none 0 0, .slice none 0 0, .slice none 0 0] 26))) := hide ((Below.refl _ _).alloc (Nat.le_refl _) _)
  have HD := hide hb
  have mixed := mixedT
  clear hb
  go_enter Tryz.func16, Tryz.ntmps16
  go_upto_region 1 with fail
  generalize w.alloc (.cells #[.string ⟨#[]⟩, .slice none 0 0, .slice none 0 0, .slice none 0 0] 26) = W1 at HO HB ⊢
  by_cases hl : 1048576 < b.length
  · have i1 : ((b.length : Nat) : Int) > 1048576 := by omega
    have HE := hide (dec_long hl)
    clear hl
    have HZ : Hid (Bx (W1.setRow w.heap.size #[.string ⟨#[]⟩, .slice none 0 0, .slice none 0 0, .slice none 0 0]) w.heap.size 26 #[.string ⟨#[]⟩, .slice none 0 0, .slice none 0 0, .slice none 0 0]) := hide (setRow_heap _ _ _ _ _ _ (unhide HO))
    have HBZ : Hid (Below w.heap.size w (W1.setRow w.heap.size #[.string ⟨#[]⟩, .slice none 0 0, .slice none 0 0, .slice none 0 0])) := hide ((unhide HB).grown (grown_row (W := W1) w.heap.size #[.string ⟨#[]⟩, .slice none 0 0, .slice none 0 0, .slice none 0 0]) (unhide HB).size (fun q e => by injection e with e; omega))
    have HDR : Hid (DecR b ⟨⟨#[]⟩, none, 0, [], none, 0, [], none, 0, []⟩ 0 4) := hide (Or.inr ⟨Or.inl (unhide HE), rfl⟩)
    go_wp2_with (refine wpList_store_row rfl 26 _ _ rfl w.heap.size #[.string ⟨#[]⟩, .slice none 0 0, .slice none 0 0, .slice none 0 0] rfl rfl 26 #[.string ⟨#[]⟩, .slice none 0 0, .slice none 0 0, .slice none 0 0] (unhide HO) (by kernel_rfl) rfl (by simp [Value.oneCell']) ?_)
    exact bodyPost_ret (v := .tuple #[.agg #[.string ⟨#[]⟩, .slice none 0 0, .slice none 0 0, .slice none 0 0], .int .i64 ((0 : Nat) : Int), .int .i64 4]) (results_md rfl _ _ w.heap.size _ _ _ rfl rfl rfl (unhide HZ) rfl) rfl ⟨⟨⟨#[]⟩, none, 0, [], none, 0, [], none, 0, []⟩, 0, 4, rfl, unhide HDR, md_zero _ _, unhide HBZ⟩
  have i1 : ¬ ((b.length : Nat) : Int) > 1048576 := by omega
  have al : Below W1.heap.size W1 (W1.alloc (.cells #[.int .u8 112, .int .u8 118, .int .u8 109, .int .u8 1] 5)) := (Below.refl _ _).alloc (Nat.le_refl _) _
  have HG2 : Hid (Bx (W1.alloc (.cells #[.int .u8 112, .int .u8 118, .int .u8 109, .int .u8 1] 5)) W1.heap.size 5 #[.int .u8 112, .int .u8 118, .int .u8 109, .int .u8 1]) := hide (heap_alloc_new W1 _)
  have HO2 := hide ((unhide HO).below al)
  have HB2 := hide ((unhide HB).trans (al.mono (unhide HB).size))
  clear al HO HB
  go_upto_region 4 with fail
  generalize W1.alloc (.cells #[.int .u8 112, .int .u8 118, .int .u8 109, .int .u8 1] 5) = W2 at HG2 HO2 HB2 ⊢
  generalize W1.heap.size = g1 at HG2 ⊢
  go_wp2_with fail
  go_loopw [6] (fun v wr => ∃ (i : Nat), i ≤ 4 ∧ i ≤ b.length ∧ v = .int .i64 (i : Int) ∧ Hid (magE b = magR b (magB.drop i) i) ∧ Hid (Bx wr g1 5 #[.int .u8 112, .int .u8 118, .int .u8 109, .int .u8 1]) ∧ Hid (Bx wr w.heap.size 26 #[.string ⟨#[]⟩, .slice none 0 0, .slice none 0 0, .slice none 0 0]) ∧ Hid (Below w.heap.size w wr)) (fun v _ => 4 - (intOf v).toNat)
  case atStart => exact ⟨0, by omega, by omega, rfl, hide rfl, HG2, HO2, HB2⟩
  case round =>
    clear HG2 HO2 HB2
    obtain ⟨i, hi, hib, rfl, HM, HG, HO, HB⟩ := hrel
    by_cases hlt : i < 4
    · have i2 : ((i : Nat) : Int) < 4 := by omega
      have HM2 : Hid (magE b = if i = b.length then some (b.length, 2) else if b.getD i 0 ≠ magB.getD i 0 then some (i, 160) else magR b (magB.drop (i + 1)) (i + 1)) := hide (by rw [unhide HM, mag_step hlt])
      clear HM
      by_cases he : i = b.length
      · have i3 : ((i : Nat) : Int) ≥ ((b.length : Nat) : Int) := by omega
        have HE : Hid (decD b = .error (b.length, 2)) := hide (dec_mag hl (by rw [unhide HM2, if_pos he]))
        clear HM2 he
        have HZ : Hid (Bx (wr.setRow w.heap.size #[.string ⟨#[]⟩, .slice none 0 0, .slice none 0 0, .slice none 0 0]) w.heap.size 26 #[.string ⟨#[]⟩, .slice none 0 0, .slice none 0 0, .slice none 0 0]) := hide (setRow_heap _ _ _ _ _ _ (unhide HO))
        have HBZ : Hid (Below w.heap.size w (wr.setRow w.heap.size #[.string ⟨#[]⟩, .slice none 0 0, .slice none 0 0, .slice none 0 0])) := hide ((unhide HB).grown (grown_row (W := wr) w.heap.size #[.string ⟨#[]⟩, .slice none 0 0, .slice none 0 0, .slice none 0 0]) (unhide HB).size (fun q e => by injection e with e; omega))
        have HDR : Hid (DecR b ⟨⟨#[]⟩, none, 0, [], none, 0, [], none, 0, []⟩ b.length 2) := hide (Or.inr ⟨Or.inl (unhide HE), rfl⟩)
        go_wp2_with (refine wpList_store_row rfl 26 _ _ rfl w.heap.size #[.string ⟨#[]⟩, .slice none 0 0, .slice none 0 0, .slice none 0 0] rfl rfl 26 #[.string ⟨#[]⟩, .slice none 0 0, .slice none 0 0, .slice none 0 0] (unhide HO) (by kernel_rfl) rfl (by simp [Value.oneCell']) ?_)
        exact bodyPost_ret (v := .tuple #[.agg #[.string ⟨#[]⟩, .slice none 0 0, .slice none 0 0, .slice none 0 0], .int .i64 ((b.length : Nat) : Int), .int .i64 2]) (results_md rfl _ _ w.heap.size _ _ _ rfl rfl rfl (unhide HZ) rfl) rfl ⟨⟨⟨#[]⟩, none, 0, [], none, 0, [], none, 0, []⟩, b.length, 2, rfl, unhide HDR, md_zero _ _, unhide HBZ⟩
      have i3 : ¬ ((i : Nat) : Int) ≥ ((b.length : Nat) : Int) := by omega
      have hlb : i < b.length := by omega
      obtain ⟨bk, off, rfl, hcl⟩ := ((unhide HD).below' (unhide HB)) i hlb
      have j1 : ((i : Nat) : Int) < ((b.length : Nat) : Int) := by omega
      have HX := hide (fun n => (⟨(unhide HG).below (below_drew wr n), (unhide HO).below (below_drew wr n), (unhide HB).trans ((below_drew wr n).mono (unhide HB).size)⟩ : Bx (wr.drewN n) g1 5 #[.int .u8 112, .int .u8 118, .int .u8 109, .int .u8 1] ∧ Bx (wr.drewN n) w.heap.size 26 #[.string ⟨#[]⟩, .slice none 0 0, .slice none 0 0, .slice none 0 0] ∧ Below w.heap.size w (wr.drewN n)))
      rcases (show i = 0 ∨ i = 1 ∨ i = 2 ∨ i = 3 by omega) with rfl | rfl | rfl | rfl
      · have g0 := (unhide HG).c 0 rfl
        rw [Nat.add_zero] at hcl
        have z0 : ¬ b.length = 0 := by omega
        have z1 : ¬ ((b.length : Nat) : Int) ≤ 0 := by omega
        have z2 : ¬ b = [] := by intro h; rw [h] at hlb; simp at hlb
        by_cases hx : b.getD 0 0 = 112
        · have hn : (at8 b 0 != (112 : Int)) = false := bne_f (by show ((b.getD 0 0).toNat : Int) = 112; rw [hx]; rfl)
          have HE : Hid (magE b = magR b (magB.drop (0 + 1)) (0 + 1)) := hide (by rw [unhide HM2, if_neg he, if_neg (by rw [hx]; decide)])
          clear HM2 he hx
          go_wp2
          go_quiet (fail)
          go_wp2
          go_roundw
          case rel => exact ⟨1, by omega, by omega, by go_num, HE, hide (unhide HX _).1, hide (unhide HX _).2.1, hide (unhide HX _).2.2⟩
          case measure => simp [intOf]
        · have hn : (at8 b 0 != (112 : Int)) = true := bne_t (by
            show ((b.getD 0 0).toNat : Int) ≠ 112
            intro h
            exact hx (UInt8.toNat_inj.1 (by have h2 : (b.getD 0 0).toNat = 112 := by omega
                                            rw [h2]; rfl)))
          have HE : Hid (decD b = .error (0, 160)) := hide (dec_mag hl (by rw [unhide HM2, if_neg he, if_pos (by intro h; exact hx (by rw [h]; rfl))]))
          clear HM2 he hx
          go_wp2
          go_quiet (fail)
          go_upto_region 10 with fail
          have HO3 := hide (unhide HX nq).2.1
          have HB3 := hide (unhide HX nq).2.2
          clear HX hn g0 hcl HG HO HB
          generalize wr.drewN nq = wz at HO3 HB3 ⊢
          have HZ : Hid (Bx (wz.setRow w.heap.size #[.string ⟨#[]⟩, .slice none 0 0, .slice none 0 0, .slice none 0 0]) w.heap.size 26 #[.string ⟨#[]⟩, .slice none 0 0, .slice none 0 0, .slice none 0 0]) := hide (setRow_heap _ _ _ _ _ _ (unhide HO3))
          have HBZ : Hid (Below w.heap.size w (wz.setRow w.heap.size #[.string ⟨#[]⟩, .slice none 0 0, .slice none 0 0, .slice none 0 0])) := hide ((unhide HB3).grown (grown_row (W := wz) w.heap.size #[.string ⟨#[]⟩, .slice none 0 0, .slice none 0 0, .slice none 0 0]) (unhide HB3).size (fun q e => by injection e with e; omega))
          have HDR : Hid (DecR b ⟨⟨#[]⟩, none, 0, [], none, 0, [], none, 0, []⟩ 0 160) := hide (Or.inr ⟨Or.inl (unhide HE), rfl⟩)
          go_wp2_with (refine wpList_store_row rfl 26 _ _ rfl w.heap.size #[.string ⟨#[]⟩, .slice none 0 0, .slice none 0 0, .slice none 0 0] rfl rfl 26 #[.string ⟨#[]⟩, .slice none 0 0, .slice none 0 0, .slice none 0 0] (unhide HO3) (by kernel_rfl) rfl (by simp [Value.oneCell']) ?_)
          exact bodyPost_ret (v := .tuple #[.agg #[.string ⟨#[]⟩, .slice none 0 0, .slice none 0 0, .slice none 0 0], .int .i64 ((0 : Nat) : Int), .int .i64 160]) (results_md rfl _ _ w.heap.size _ _ _ rfl rfl rfl (unhide HZ) rfl) rfl ⟨⟨⟨#[]⟩, none, 0, [], none, 0, [], none, 0, []⟩, 0, 160, rfl, unhide HDR, md_zero _ _, unhide HBZ⟩
      · have g0 := (unhide HG).c 1 rfl
        by_cases hx : b.getD 1 0 = 118
        · have hn : (at8 b 1 != (118 : Int)) = false := bne_f (by show ((b.getD 1 0).toNat : Int) = 118; rw [hx]; rfl)
          have HE : Hid (magE b = magR b (magB.drop (1 + 1)) (1 + 1)) := hide (by rw [unhide HM2, if_neg he, if_neg (by rw [hx]; decide)])
          clear HM2 he hx
          go_wp2
          go_quiet (fail)
          go_wp2
          go_roundw
          case rel => exact ⟨2, by omega, by omega, by go_num, HE, hide (unhide HX _).1, hide (unhide HX _).2.1, hide (unhide HX _).2.2⟩
          case measure => simp [intOf]
        · have hn : (at8 b 1 != (118 : Int)) = true := bne_t (by
            show ((b.getD 1 0).toNat : Int) ≠ 118
            intro h
            exact hx (UInt8.toNat_inj.1 (by have h2 : (b.getD 1 0).toNat = 118 := by omega
                                            rw [h2]; rfl)))
          have HE : Hid (decD b = .error (1, 160)) := hide (dec_mag hl (by rw [unhide HM2, if_neg he, if_pos (by intro h; exact hx (by rw [h]; rfl))]))
          clear HM2 he hx
          go_wp2
          go_quiet (fail)
          go_upto_region 10 with fail
          have HO3 := hide (unhide HX nq).2.1
          have HB3 := hide (unhide HX nq).2.2
          clear HX hn g0 hcl HG HO HB
          generalize wr.drewN nq = wz at HO3 HB3 ⊢
          have HZ : Hid (Bx (wz.setRow w.heap.size #[.string ⟨#[]⟩, .slice none 0 0, .slice none 0 0, .slice none 0 0]) w.heap.size 26 #[.string ⟨#[]⟩, .slice none 0 0, .slice none 0 0, .slice none 0 0]) := hide (setRow_heap _ _ _ _ _ _ (unhide HO3))
          have HBZ : Hid (Below w.heap.size w (wz.setRow w.heap.size #[.string ⟨#[]⟩, .slice none 0 0, .slice none 0 0, .slice none 0 0])) := hide ((unhide HB3).grown (grown_row (W := wz) w.heap.size #[.string ⟨#[]⟩, .slice none 0 0, .slice none 0 0, .slice none 0 0]) (unhide HB3).size (fun q e => by injection e with e; omega))
          have HDR : Hid (DecR b ⟨⟨#[]⟩, none, 0, [], none, 0, [], none, 0, []⟩ 1 160) := hide (Or.inr ⟨Or.inl (unhide HE), rfl⟩)
          go_wp2_with (refine wpList_store_row rfl 26 _ _ rfl w.heap.size #[.string ⟨#[]⟩, .slice none 0 0, .slice none 0 0, .slice none 0 0] rfl rfl 26 #[.string ⟨#[]⟩, .slice none 0 0, .slice none 0 0, .slice none 0 0] (unhide HO3) (by kernel_rfl) rfl (by simp [Value.oneCell']) ?_)
          exact bodyPost_ret (v := .tuple #[.agg #[.string ⟨#[]⟩, .slice none 0 0, .slice none 0 0, .slice none 0 0], .int .i64 ((1 : Nat) : Int), .int .i64 160]) (results_md rfl _ _ w.heap.size _ _ _ rfl rfl rfl (unhide HZ) rfl) rfl ⟨⟨⟨#[]⟩, none, 0, [], none, 0, [], none, 0, []⟩, 1, 160, rfl, unhide HDR, md_zero _ _, unhide HBZ⟩
      · have g0 := (unhide HG).c 2 rfl
        by_cases hx : b.getD 2 0 = 109
        · have hn : (at8 b 2 != (109 : Int)) = false := bne_f (by show ((b.getD 2 0).toNat : Int) = 109; rw [hx]; rfl)
          have HE : Hid (magE b = magR b (magB.drop (2 + 1)) (2 + 1)) := hide (by rw [unhide HM2, if_neg he, if_neg (by rw [hx]; decide)])
          clear HM2 he hx
          go_wp2
          go_quiet (fail)
          go_wp2
          go_roundw
          case rel => exact ⟨3, by omega, by omega, by go_num, HE, hide (unhide HX _).1, hide (unhide HX _).2.1, hide (unhide HX _).2.2⟩
          case measure => simp [intOf]
        · have hn : (at8 b 2 != (109 : Int)) = true := bne_t (by
            show ((b.getD 2 0).toNat : Int) ≠ 109
            intro h
            exact hx (UInt8.toNat_inj.1 (by have h2 : (b.getD 2 0).toNat = 109 := by omega
                                            rw [h2]; rfl)))
          have HE : Hid (decD b = .error (2, 160)) := hide (dec_mag hl (by rw [unhide HM2, if_neg he, if_pos (by intro h; exact hx (by rw [h]; rfl))]))
          clear HM2 he hx
          go_wp2
          go_quiet (fail)
          go_upto_region 10 with fail
          have HO3 := hide (unhide HX nq).2.1
          have HB3 := hide (unhide HX nq).2.2
          clear HX hn g0 hcl HG HO HB
          generalize wr.drewN nq = wz at HO3 HB3 ⊢
          have HZ : Hid (Bx (wz.setRow w.heap.size #[.string ⟨#[]⟩, .slice none 0 0, .slice none 0 0, .slice none 0 0]) w.heap.size 26 #[.string ⟨#[]⟩, .slice none 0 0, .slice none 0 0, .slice none 0 0]) := hide (setRow_heap _ _ _ _ _ _ (unhide HO3))
          have HBZ : Hid (Below w.heap.size w (wz.setRow w.heap.size #[.string ⟨#[]⟩, .slice none 0 0, .slice none 0 0, .slice none 0 0])) := hide ((unhide HB3).grown (grown_row (W := wz) w.heap.size #[.string ⟨#[]⟩, .slice none 0 0, .slice none 0 0, .slice none 0 0]) (unhide HB3).size (fun q e => by injection e with e; omega))
          have HDR : Hid (DecR b ⟨⟨#[]⟩, none, 0, [], none, 0, [], none, 0, []⟩ 2 160) := hide (Or.inr ⟨Or.inl (unhide HE), rfl⟩)
          go_wp2_with (refine wpList_store_row rfl 26 _ _ rfl w.heap.size #[.string ⟨#[]⟩, .slice none 0 0, .slice none 0 0, .slice none 0 0] rfl rfl 26 #[.string ⟨#[]⟩, .slice none 0 0, .slice none 0 0, .slice none 0 0] (unhide HO3) (by kernel_rfl) rfl (by simp [Value.oneCell']) ?_)
          exact bodyPost_ret (v := .tuple #[.agg #[.string ⟨#[]⟩, .slice none 0 0, .slice none 0 0, .slice none 0 0], .int .i64 ((2 : Nat) : Int), .int .i64 160]) (results_md rfl _ _ w.heap.size _ _ _ rfl rfl rfl (unhide HZ) rfl) rfl ⟨⟨⟨#[]⟩, none, 0, [], none, 0, [], none, 0, []⟩, 2, 160, rfl, unhide HDR, md_zero _ _, unhide HBZ⟩
      · have g0 := (unhide HG).c 3 rfl
        by_cases hx : b.getD 3 0 = 1
        · have hn : (at8 b 3 != (1 : Int)) = false := bne_f (by show ((b.getD 3 0).toNat : Int) = 1; rw [hx]; rfl)
          have HE : Hid (magE b = magR b (magB.drop (3 + 1)) (3 + 1)) := hide (by rw [unhide HM2, if_neg he, if_neg (by rw [hx]; decide)])
          clear HM2 he hx
          go_wp2
          go_quiet (fail)
          go_wp2
          go_roundw
          case rel => exact ⟨4, by omega, by omega, by go_num, HE, hide (unhide HX _).1, hide (unhide HX _).2.1, hide (unhide HX _).2.2⟩
          case measure => simp [intOf]
        · have hn : (at8 b 3 != (1 : Int)) = true := bne_t (by
            show ((b.getD 3 0).toNat : Int) ≠ 1
            intro h
            exact hx (UInt8.toNat_inj.1 (by have h2 : (b.getD 3 0).toNat = 1 := by omega
                                            rw [h2]; rfl)))
          have HE : Hid (decD b = .error (3, 160)) := hide (dec_mag hl (by rw [unhide HM2, if_neg he, if_pos (by intro h; exact hx (by rw [h]; rfl))]))
          clear HM2 he hx
          go_wp2
          go_quiet (fail)
          go_upto_region 10 with fail
          have HO3 := hide (unhide HX nq).2.1
          have HB3 := hide (unhide HX nq).2.2
          clear HX hn g0 hcl HG HO HB
          generalize wr.drewN nq = wz at HO3 HB3 ⊢
          have HZ : Hid (Bx (wz.setRow w.heap.size #[.string ⟨#[]⟩, .slice none 0 0, .slice none 0 0, .slice none 0 0]) w.heap.size 26 #[.string ⟨#[]⟩, .slice none 0 0, .slice none 0 0, .slice none 0 0]) := hide (setRow_heap _ _ _ _ _ _ (unhide HO3))
          have HBZ : Hid (Below w.heap.size w (wz.setRow w.heap.size #[.string ⟨#[]⟩, .slice none 0 0, .slice none 0 0, .slice none 0 0])) := hide ((unhide HB3).grown (grown_row (W := wz) w.heap.size #[.string ⟨#[]⟩, .slice none 0 0, .slice none 0 0, .slice none 0 0]) (unhide HB3).size (fun q e => by injection e with e; omega))
          have HDR : Hid (DecR b ⟨⟨#[]⟩, none, 0, [], none, 0, [], none, 0, []⟩ 3 160) := hide (Or.inr ⟨Or.inl (unhide HE), rfl⟩)
          go_wp2_with (refine wpList_store_row rfl 26 _ _ rfl w.heap.size #[.string ⟨#[]⟩, .slice none 0 0, .slice none 0 0, .slice none 0 0] rfl rfl 26 #[.string ⟨#[]⟩, .slice none 0 0, .slice none 0 0, .slice none 0 0] (unhide HO3) (by kernel_rfl) rfl (by simp [Value.oneCell']) ?_)
          exact bodyPost_ret (v := .tuple #[.agg #[.string ⟨#[]⟩, .slice none 0 0, .slice none 0 0, .slice none 0 0], .int .i64 ((3 : Nat) : Int), .int .i64 160]) (results_md rfl _ _ w.heap.size _ _ _ rfl rfl rfl (unhide HZ) rfl) rfl ⟨⟨⟨#[]⟩, none, 0, [], none, 0, [], none, 0, []⟩, 3, 160, rfl, unhide HDR, md_zero _ _, unhide HBZ⟩
    · have i2 : ¬ ((i : Nat) : Int) < 4 := by omega
      have HMG : Hid (magE b = none) := hide (by rw [unhide HM, show i = 4 by omega]; rfl)
      have h4 : 4 ≤ b.length := by omega
      clear HM HG
      obtain ⟨N, hN⟩ : ∃ N, b.length = N + 4 := ⟨b.length - 4, by omega⟩
      have hNs : b.length - 4 = N := by omega
      have HHN := hide hN
      have hn4 : ((b.length : Nat) : Int) - 4 = (N : Int) := by omega
      have hw4 : IntKind.i64.wrap (((b.length : Nat) : Int) - 4) = (N : Int) := by rw [hn4]; simp [IntKind.wrap, IntKind.bits, IntKind.signed]; omega
      clear hN
      by_cases h8 : b.length < 8
      · have i3 : (N : Int) < 4 := by have := unhide HHN; omega
        have HE : Hid (decD b = .error (b.length, 2)) := hide (dec_few hl (unhide HMG) h8)
        clear h8 hNs
        have HZ : Hid (Bx (wr.setRow w.heap.size #[.string ⟨#[]⟩, .slice none 0 0, .slice none 0 0, .slice none 0 0]) w.heap.size 26 #[.string ⟨#[]⟩, .slice none 0 0, .slice none 0 0, .slice none 0 0]) := hide (setRow_heap _ _ _ _ _ _ (unhide HO))
        have HBZ : Hid (Below w.heap.size w (wr.setRow w.heap.size #[.string ⟨#[]⟩, .slice none 0 0, .slice none 0 0, .slice none 0 0])) := hide ((unhide HB).grown (grown_row (W := wr) w.heap.size #[.string ⟨#[]⟩, .slice none 0 0, .slice none 0 0, .slice none 0 0]) (unhide HB).size (fun q e => by injection e with e; omega))
        have HDR : Hid (DecR b ⟨⟨#[]⟩, none, 0, [], none, 0, [], none, 0, []⟩ b.length 2) := hide (Or.inr ⟨Or.inl (unhide HE), rfl⟩)
        go_wp2_with (refine wpList_store_row rfl 26 _ _ rfl w.heap.size #[.string ⟨#[]⟩, .slice none 0 0, .slice none 0 0, .slice none 0 0] rfl rfl 26 #[.string ⟨#[]⟩, .slice none 0 0, .slice none 0 0, .slice none 0 0] (unhide HO) (by kernel_rfl) rfl (by simp [Value.oneCell']) ?_)
        exact bodyPost_ret (v := .tuple #[.agg #[.string ⟨#[]⟩, .slice none 0 0, .slice none 0 0, .slice none 0 0], .int .i64 ((b.length : Nat) : Int), .int .i64 2]) (results_md rfl _ _ w.heap.size _ _ _ rfl rfl rfl (unhide HZ) rfl) rfl ⟨⟨⟨#[]⟩, none, 0, [], none, 0, [], none, 0, []⟩, b.length, 2, rfl, unhide HDR, md_zero _ _, unhide HBZ⟩
      have hN := unhide HHN
      have i3 : ¬ (N : Int) < 4 := by omega
      obtain ⟨bk, off, rfl, -⟩ := (unhide HD).head (by omega)
      have eN : (b.take N).length = N := by rw [List.length_take]; omega
      have HDw := hide ((unhide HD).below' (unhide HB))
      have HDs := hide (dec_sum hl (unhide HMG) h8)
      have HDb := hide (dec_bod hl (unhide HMG) h8)
      rw [hNs] at HDs HDb
      obtain ⟨L, HLE⟩ : ∃ L, Hid (b.take N = L) := ⟨_, hide rfl⟩
      rw [unhide HLE] at HDs HDb eN
      have hT : BAt wr (some ⟨bk, off, none⟩) L := by rw [← unhide HLE]; exact cut_front (unhide HDw) N
      have HTL := hide hT
      have HEN := hide eN
      have HSu := hide (summed_conv (w := wr.drew) (c := c) (l := b) (ao := some ⟨bk, off, none⟩) (hT.below' (Below.drew (Below.refl _ _))) (by omega) ((unhide HDw).below' (Below.drew (Below.refl _ _))) (fun e => by cases e))
      rw [eN] at HSu
      have cb : (convert 28 9 (.slice (some ⟨bk, off, none⟩) b.length c)).run Tryz.prog wr.drew = .ok (.string ⟨b.toArray⟩) wr.drew := conv_bytesT ((unhide HDw).below' (Below.drew (Below.refl _ _))) (fun e => by cases e) c
      have hNc : (N : Int) ≤ (c : Int) := by omega
      have hNc2 : N ≤ c := by omega
      obtain ⟨Sm, HSM⟩ : ∃ X, Hid (tsum L = X) := ⟨_, hide rfl⟩
      rw [unhide HSM] at HSu HDs HDb
      have hSl : 0 < Sm.length := by rw [← unhide HSM, tsum_len]; omega
      have HB0 := hide (Below.drew (Below.refl wr.heap.size wr))
      clear hN hNs hT eN i2 hi hib h4
      go_upto_region 14 with fail
      refine wp_region_held_drew (S := fun w' => (convert 28 9 (.slice (some ⟨bk, off, none⟩) b.length c)).run Tryz.prog w' = .ok (.string ⟨b.toArray⟩) w') mixed cb (fun hS => ?_)
      generalize wr.drew = Wd at hS HSu HB0 ⊢
      refine wpAnyH_take (i := 0) (v := .slice (some ⟨bk, off, none⟩) b.length c) rfl (by kernel_rfl) (by kernel_rfl) (by kernel_rfl) (fun _ _ _ h => h) (Or.inl ⟨by rfl, fun w _ => by go_simp⟩) hS ?_
      go_simp
      refine wpAnyH_take (i := 1) (v := .int .i64 (N : Int)) rfl (by kernel_rfl) (by kernel_rfl) (by kernel_rfl) (fun _ _ _ h => h) (Or.inl ⟨by rfl, fun w _ => by go_simp⟩) hS ?_
      go_simp
      refine wpAnyH_take (i := 2) (v := .slice (some ⟨bk, off, none⟩) N c) rfl (by kernel_rfl) (by kernel_rfl) (by kernel_rfl) (fun _ _ _ h => h) (Or.inl ⟨by rfl, fun w _ => by go_simp⟩) hS ?_
      go_simp
      refine wpAnyH_take (i := 5) (v := .slice (some ⟨bk, off, none⟩) b.length c) rfl (by kernel_rfl) (by kernel_rfl) (by kernel_rfl) (fun _ _ _ h => h) (Or.inl ⟨by rfl, fun w _ => by go_simp⟩) hS ?_
      go_simp
      refine wpAnyH_take (i := 6) (v := .string ⟨b.toArray⟩) rfl (by kernel_rfl) (by kernel_rfl) (by kernel_rfl) (fun _ _ _ h => h) (Or.inl ⟨by rfl, fun w h => by go_simp⟩) hS ?_
      go_simp
      refine wpAnyH_ready (rs := [3]) (by kernel_rfl) (by simp) ?_
      refine AllReadyH.cons rfl (fun K hK => ?_) AllReadyH.nil
      go_simp
      refine (unhide HSu).mono ?_
      rintro e W3 ⟨va, vc, rfl, cv, cb2, hb1⟩
      have HB3 := hide ((unhide HB0).trans (hb1.mono (unhide HB0).size))
      refine hK.out _ _ cb2 (fun hS5 => ?_)
      clear hK K hS hb1 HSu HB0
      refine wpAnyH_ready (rs := [4]) (by kernel_rfl) (by simp) ?_
      refine AllReadyH.cons rfl (fun K hK => ?_) AllReadyH.nil
      go_simp
      refine hK.out _ _ cb2 (fun hS6 => ?_)
      clear hK K hS5
      have HO3 := hide ((unhide HO).below (unhide HB3))
      have HBw := hide ((unhide HB).trans ((unhide HB3).mono (unhide HB).size))
      have HD3 := hide ((unhide HDw).below' (unhide HB3))
      have HT3 := hide ((unhide HTL).below' (unhide HB3))
      clear HB3 HO HB HDw HTL cb HD
      by_cases hsum : Sm = b
      rotate_left
      · have hq : Sm ≠ b := hsum
        refine wpAnyH_take (i := 7) (v := .bool true) rfl (by kernel_rfl) (by kernel_rfl) (by kernel_rfl) (fun _ _ _ h => h) (Or.inl ⟨by rfl, fun w _ => by go_simp⟩) hS6 ?_
        have HE := hide (unhide HDs hq)
        clear hq hsum cb2 cv hS6
        refine wpAnyH_done (by kernel_rfl) ?_ _
        have HZ : Hid (Bx (W3.setRow w.heap.size #[.string ⟨#[]⟩, .slice none 0 0, .slice none 0 0, .slice none 0 0]) w.heap.size 26 #[.string ⟨#[]⟩, .slice none 0 0, .slice none 0 0, .slice none 0 0]) := hide (setRow_heap _ _ _ _ _ _ (unhide HO3))
        have HBZ : Hid (Below w.heap.size w (W3.setRow w.heap.size #[.string ⟨#[]⟩, .slice none 0 0, .slice none 0 0, .slice none 0 0])) := hide ((unhide HBw).grown (grown_row (W := W3) w.heap.size #[.string ⟨#[]⟩, .slice none 0 0, .slice none 0 0, .slice none 0 0]) (unhide HBw).size (fun q e => by injection e with e; omega))
        have HDR : Hid (DecR b ⟨⟨#[]⟩, none, 0, [], none, 0, [], none, 0, []⟩ N 161) := hide (Or.inr ⟨Or.inl (unhide HE), rfl⟩)
        go_wp2_with (refine wpList_store_row rfl 26 _ _ rfl w.heap.size #[.string ⟨#[]⟩, .slice none 0 0, .slice none 0 0, .slice none 0 0] rfl rfl 26 #[.string ⟨#[]⟩, .slice none 0 0, .slice none 0 0, .slice none 0 0] (unhide HO3) (by kernel_rfl) rfl (by simp [Value.oneCell']) ?_)
        exact bodyPost_ret (v := .tuple #[.agg #[.string ⟨#[]⟩, .slice none 0 0, .slice none 0 0, .slice none 0 0], .int .i64 ((N : Nat) : Int), .int .i64 161]) (results_md rfl _ _ w.heap.size _ _ _ rfl rfl rfl (unhide HZ) rfl) rfl ⟨⟨⟨#[]⟩, none, 0, [], none, 0, [], none, 0, []⟩, N, 161, rfl, unhide HDR, md_zero _ _, unhide HBZ⟩
      have HDB := hide (unhide HDb hsum)
      refine wpAnyH_take (i := 7) (v := .bool false) rfl (by kernel_rfl) (by kernel_rfl) (by kernel_rfl) (fun _ _ _ h => h) (Or.inl ⟨by rfl, fun w _ => by go_simp⟩) hS6 ?_
      refine wpAnyH_done (by kernel_rfl) ?_ _
      clear cb2 cv hS6 hsum HDs HDb HSM hSl
      go_simp
      have al : Below W3.heap.size W3 (W3.alloc (.cells #[.slice (some ⟨bk, off, none⟩) N c, .int .i64 4, .int .i64 0, .int .i64 0] 76)) := (Below.refl _ _).alloc (Nat.le_refl _) _
      have HC4 : Hid (Cu (W3.alloc (.cells #[.slice (some ⟨bk, off, none⟩) N c, .int .i64 4, .int .i64 0, .int .i64 0] 76)) W3.heap.size (some ⟨bk, off, none⟩) c L (Cs.ok 4)) := hide ⟨by rw [unhide HEN]; exact heap_alloc_new W3 _, (unhide HT3).below' al, (bat_lt (unhide HT3)).mono (fun q hq => by omega), by show 4 ≤ _; rw [unhide HEN]; omega, by rw [unhide HEN]; omega, by rw [unhide HEN]; omega, ⟨_, _, rfl⟩⟩
      have HO4 := hide ((unhide HO3).below al)
      have HB4 := hide ((unhide HBw).trans (al.mono (unhide HBw).size))
      have HS4 : Hid (w.heap.size < W3.heap.size) := hide (unhide HO3).lt
      clear al HO3 HBw HD3 HT3
      go_upto_region 17 with fail
      generalize W3.alloc (.cells #[.slice (some ⟨bk, off, none⟩) N c, .int .i64 4, .int .i64 0, .int .i64 0] 76) = W4 at HC4 HO4 HB4 ⊢
      generalize W3.heap.size = gc at HC4 HS4 ⊢
      have HBS := bod_sim (L := L) (by rw [unhide HEN]; omega)
      have HSIM := hide HBS
      clear HBS
      obtain ⟨⟨mz, sz⟩, hmz⟩ : ∃ r, mdS L (Cs.ok 4) = r := ⟨_, rfl⟩
      rw [hmz] at HSIM
      have HK : Hid (Calls Tryz.prog 37 #[.pointer (some ⟨gc, 0, none⟩)] W4 (CuM W4 gc (some ⟨bk, off, none⟩) c L mz sz)) := hide (by
        have h := cu_module (unhide HC4)
        rw [hmz] at h
        exact h)
      clear hmz HC4
      go_wp2_with fail
      refine (unhide HK).mono ?_
      rintro e W5 ⟨y, rfl, hmc, hmd, hcu, hg⟩
      have al : Below W5.heap.size W5 (W5.alloc (.cells #[.string y.nm, .slice y.ao y.T.length y.cap, .slice y.fo y.F.length y.fc, .slice y.co y.C.length y.cc] 26)) := (Below.refl _ _).alloc (Nat.le_refl _) _
      have HY6 : Hid (Bx (W5.alloc (.cells #[.string y.nm, .slice y.ao y.T.length y.cap, .slice y.fo y.F.length y.fc, .slice y.co y.C.length y.cc] 26)) W5.heap.size 26 #[.string y.nm, .slice y.ao y.T.length y.cap, .slice y.fo y.F.length y.fc, .slice y.co y.C.length y.cc]) := hide (heap_alloc_new W5 _)
      have HO6 := hide (((unhide HO4).grown hg (fun e => by have := unhide HS4; injection e with e; omega)).below al)
      have hb5 := (unhide HB4).grown hg (unhide HB4).size (fun q e => by have := unhide HS4; injection e with e; omega)
      have HB6 := hide (hb5.trans (al.mono hb5.size))
      have HM6 := hide ((hmd.mono (A := w.heap.size + 1) (by have := unhide HS4; have := (unhide HO4).lt; omega)).below al)
      have HC6 := hide (hcu.below al)
      have HYC := hide hmc
      clear hmc hmd hcu hg hb5 al HK HO4 HB4
      go_upto_region 18 with fail
      generalize W5.alloc (.cells #[.string y.nm, .slice y.ao y.T.length y.cap, .slice y.fo y.F.length y.fc, .slice y.co y.C.length y.cc] 26) = W6 at HY6 HO6 HB6 HM6 HC6 ⊢
      generalize W5.heap.size = gm at HY6 ⊢
      have k3 := (unhide HC6).bx.c 3 rfl
      rcases unhide HSIM with ⟨mm, hm1, hm2, hm3⟩ | ⟨a, er, hm1, hm2, hm3, hm4⟩
      rotate_left
      · have t0 : (sz.why != 0) = true := bne_t (by have h : sz.why = er := hm4; rw [h]; exact hm2)
        have HE : Hid (decD b = .error (sz.bad, sz.why)) := hide (by
          have h3 : sz.bad = a := hm3
          have h4 : sz.why = er := hm4
          rw [unhide HDB, h3, h4]; exact hm1)
        clear hm1 hm2 hm3 hm4 HSIM
        have k2 := (unhide HC6).bx.c 2 rfl
        go_upto_region 19 with fail
        have hd6 : Below W6.heap.size W6 W6.drew := Below.drew (Below.refl _ _)
        have HC7 := hide ((unhide HC6).below hd6)
        have HO7 := hide ((unhide HO6).below hd6)
        have HB7 := hide ((unhide HB6).trans (hd6.mono (unhide HB6).size))
        have hgw7 : w.heap.size < gc := unhide HS4
        refine wp_region_held_drew (S := fun w' => Bx w' gc 76 #[.slice (some ⟨bk, off, none⟩) L.length c, .int .i64 (sz.at_ : Int), .int .i64 (sz.bad : Int), .int .i64 sz.why]) mixed (unhide HC7).bx (fun hS => ?_)
        clear hd6 HC6 HO6 HB6
        generalize W6.drew = Wd7 at hS HC7 HO7 HB7 ⊢
        refine wpAnyH_take (i := 0) (v := .agg #[.string ⟨#[]⟩, .slice none 0 0, .slice none 0 0, .slice none 0 0]) rfl (by kernel_rfl) (by kernel_rfl) (by kernel_rfl) (fun _ _ _ h => h) (Or.inl ⟨by rfl, fun w _ => by go_simp⟩) hS ?_
        go_simp
        refine wpAnyH_take (i := 1) (v := .pointer (some ⟨gc, 0, none⟩)) rfl (by kernel_rfl) (by kernel_rfl) (by kernel_rfl) (fun _ _ _ h => h) (Or.inl ⟨by rfl, fun w _ => by go_simp⟩) hS ?_
        go_simp
        refine wpAnyH_take (i := 2) (v := .pointer (some ⟨gc, 0, none⟩)) rfl (by kernel_rfl) (by kernel_rfl) (by kernel_rfl) (fun _ _ _ h => h) (Or.inl ⟨by rfl, fun w _ => by go_simp⟩) hS ?_
        go_simp
        refine wpAnyH_take (i := 3) (v := .pointer (some ⟨gc, 2, none⟩)) rfl (by kernel_rfl) (by kernel_rfl) (by kernel_rfl) (fun _ _ _ h => h) (Or.inl ⟨by rfl, fun w _ => by go_simp⟩) hS ?_
        go_simp
        refine wpAnyH_take (i := 4) (v := .int .i64 (sz.bad : Int)) rfl (by kernel_rfl) (by kernel_rfl) (by kernel_rfl) (fun _ _ _ h => h) (Or.inl ⟨by rfl, fun W h => by have h0 := h.c 2 rfl; go_simp⟩) hS ?_
        go_simp
        refine wpAnyH_take (i := 5) (v := .pointer (some ⟨gc, 0, none⟩)) rfl (by kernel_rfl) (by kernel_rfl) (by kernel_rfl) (fun _ _ _ h => h) (Or.inl ⟨by rfl, fun w _ => by go_simp⟩) hS ?_
        go_simp
        refine wpAnyH_take (i := 6) (v := .pointer (some ⟨gc, 0, none⟩)) rfl (by kernel_rfl) (by kernel_rfl) (by kernel_rfl) (fun _ _ _ h => h) (Or.inl ⟨by rfl, fun w _ => by go_simp⟩) hS ?_
        go_simp
        refine wpAnyH_take (i := 7) (v := .pointer (some ⟨gc, 3, none⟩)) rfl (by kernel_rfl) (by kernel_rfl) (by kernel_rfl) (fun _ _ _ h => h) (Or.inl ⟨by rfl, fun w _ => by go_simp⟩) hS ?_
        go_simp
        refine wpAnyH_take (i := 8) (v := .int .i64 sz.why) rfl (by kernel_rfl) (by kernel_rfl) (by kernel_rfl) (fun _ _ _ h => h) (Or.inl ⟨by rfl, fun W h => by have h0 := h.c 3 rfl; go_simp⟩) hS ?_
        go_simp
        have HZ : Hid (Bx (Wd7.setRow w.heap.size #[.string ⟨#[]⟩, .slice none 0 0, .slice none 0 0, .slice none 0 0]) w.heap.size 26 #[.string ⟨#[]⟩, .slice none 0 0, .slice none 0 0, .slice none 0 0]) := hide (setRow_heap _ _ _ _ _ _ (unhide HO7))
        have hgw := grown_row (W := Wd7) w.heap.size #[.string ⟨#[]⟩, .slice none 0 0, .slice none 0 0, .slice none 0 0]
        have HC8 := hide ((unhide HC7).bx.grown hgw (fun e => by injection e with e; omega))
        have HB8 := hide ((unhide HB7).grown hgw (unhide HB7).size (fun q e => by injection e with e; omega))
        have HDR : Hid (DecR b ⟨⟨#[]⟩, none, 0, [], none, 0, [], none, 0, []⟩ sz.bad sz.why) := hide (Or.inr ⟨Or.inl (unhide HE), rfl⟩)
        clear hgw
        refine wpAnyH_ready (rs := [9]) (by kernel_rfl) (by simp) ?_
        refine AllReadyH.cons rfl (fun KK hK => ?_) AllReadyH.nil
        rw [if_pos (by rfl)]
        refine wp_store_row 26 _ _ rfl w.heap.size #[.string ⟨#[]⟩, .slice none 0 0, .slice none 0 0, .slice none 0 0] rfl rfl 26 #[.string ⟨#[]⟩, .slice none 0 0, .slice none 0 0, .slice none 0 0] (unhide HO7) (by kernel_rfl) rfl (by simp [Value.oneCell']) ?_
        refine hK.out _ _ (unhide HC8) (fun hS => ?_)
        clear hK KK
        refine wpAnyH_ready (rs := [10]) (by kernel_rfl) (by simp) ?_
        refine AllReadyH.cons rfl (fun KK hK => ?_) AllReadyH.nil
        go_simp
        refine hK.out _ _ (unhide HC8) (fun hS => ?_)
        clear hK KK
        refine wpAnyH_ready (rs := [11]) (by kernel_rfl) (by simp) ?_
        refine AllReadyH.cons rfl (fun KK hK => ?_) AllReadyH.nil
        go_simp
        refine hK.out _ _ (unhide HC8) (fun hS => ?_)
        clear hK KK
        refine wpAnyH_done (by kernel_rfl) ?_ _
        go_wp2
        exact bodyPost_ret (v := .tuple #[.agg #[.string ⟨#[]⟩, .slice none 0 0, .slice none 0 0, .slice none 0 0], .int .i64 (sz.bad : Int), .int .i64 sz.why]) (results_md rfl _ _ w.heap.size _ _ _ rfl rfl rfl (unhide HZ) rfl) rfl ⟨⟨⟨#[]⟩, none, 0, [], none, 0, [], none, 0, []⟩, sz.bad, sz.why, rfl, unhide HDR, md_zero _ _, unhide HB8⟩
      have t0 : (sz.why != 0) = false := bne_f hm3
      have HOK : Hid (decD b = .ok (mcOf y)) := hide (by
        have h2 : mz = mm := hm2
        rw [unhide HDB, unhide HYC, h2]; exact hm1)
      have m0 := (unhide HY6).c 0 rfl
      have m1 := (unhide HY6).c 1 rfl
      have m2 := (unhide HY6).c 2 rfl
      have m3 := (unhide HY6).c 3 rfl
      have HCK := hide (refCheck16_any y W6 (unhide HM6).ok)
      clear hm1 hm2 hm3 HSIM
      go_wp2_with fail
      refine (unhide HCK).mono ?_
      rintro e W7 ⟨⟨n, er, rfl, hck⟩, hb7⟩
      have HCR := hide hck
      have HO7 := hide ((unhide HO6).below hb7)
      have HY7 := hide ((unhide HY6).below hb7)
      have HB7 := hide ((unhide HB6).trans (hb7.mono (unhide HB6).size))
      have HM7 := hide ((unhide HM6).below hb7)
      clear hck hb7 HCK HO6 HY6 HB6 HM6 HC6 k3 t0 m0 m1 m2 m3
      by_cases her : er = 0
      rotate_left
      · have t0 : (er != 0) = true := bne_t her
        have HER := hide her
        clear her
        have HZ : Hid (Bx (W7.setRow w.heap.size #[.string ⟨#[]⟩, .slice none 0 0, .slice none 0 0, .slice none 0 0]) w.heap.size 26 #[.string ⟨#[]⟩, .slice none 0 0, .slice none 0 0, .slice none 0 0]) := hide (setRow_heap _ _ _ _ _ _ (unhide HO7))
        have HBZ : Hid (Below w.heap.size w (W7.setRow w.heap.size #[.string ⟨#[]⟩, .slice none 0 0, .slice none 0 0, .slice none 0 0])) := hide ((unhide HB7).grown (grown_row (W := W7) w.heap.size #[.string ⟨#[]⟩, .slice none 0 0, .slice none 0 0, .slice none 0 0]) (unhide HB7).size (fun q e => by injection e with e; omega))
        have HDR : Hid (DecR b ⟨⟨#[]⟩, none, 0, [], none, 0, [], none, 0, []⟩ 0 er) := hide (Or.inr ⟨Or.inr ⟨rfl, unhide HER, y, n, unhide HOK, unhide HCR⟩, rfl⟩)
        go_wp2_with (refine wpList_store_row rfl 26 _ _ rfl w.heap.size #[.string ⟨#[]⟩, .slice none 0 0, .slice none 0 0, .slice none 0 0] rfl rfl 26 #[.string ⟨#[]⟩, .slice none 0 0, .slice none 0 0, .slice none 0 0] (unhide HO7) (by kernel_rfl) rfl (by simp [Value.oneCell']) ?_)
        exact bodyPost_ret (v := .tuple #[.agg #[.string ⟨#[]⟩, .slice none 0 0, .slice none 0 0, .slice none 0 0], .int .i64 ((0 : Nat) : Int), .int .i64 er]) (results_md rfl _ _ w.heap.size _ _ _ rfl rfl rfl (unhide HZ) rfl) rfl ⟨⟨⟨#[]⟩, none, 0, [], none, 0, [], none, 0, []⟩, 0, er, rfl, unhide HDR, md_zero _ _, unhide HBZ⟩
      subst her
      have t0 : ((0 : Int) != 0) = false := rfl
      have HDR : Hid (DecR b y 0 0) := hide (Or.inl ⟨unhide HOK, by have h := unhide HCR; rw [(ck_good h).2] at h; exact h, rfl, rfl⟩)
      have hgw := grown_row (W := W7) w.heap.size #[.string y.nm, .slice y.ao y.T.length y.cap, .slice y.fo y.F.length y.fc, .slice y.co y.C.length y.cc]
      have HZ : Hid (Bx (W7.setRow w.heap.size #[.string y.nm, .slice y.ao y.T.length y.cap, .slice y.fo y.F.length y.fc, .slice y.co y.C.length y.cc]) w.heap.size 26 #[.string y.nm, .slice y.ao y.T.length y.cap, .slice y.fo y.F.length y.fc, .slice y.co y.C.length y.cc]) := hide (setRow_heap _ _ _ _ _ _ (unhide HO7))
      have HMb := hide (((unhide HM7).far hgw (by omega)).mono (A := w.heap.size) (by omega))
      have HBb := hide ((unhide HB7).grown hgw (unhide HB7).size (fun q e => by injection e with e; omega))
      clear hgw HM7 HB7
      go_wp2_with (first | (refine wpList_load_rowG (by kernel_rfl) 26 (.tmp 9) rfl gm rfl 26 #[.string y.nm, .slice y.ao y.T.length y.cap, .slice y.fo y.F.length y.fc, .slice y.co y.C.length y.cc] (0, 0) _ (unhide HY7) Tryz.underlying26 rfl (by kernel_rfl) ?_) | (refine wpList_store_row rfl 26 _ _ rfl w.heap.size #[.string y.nm, .slice y.ao y.T.length y.cap, .slice y.fo y.F.length y.fc, .slice y.co y.C.length y.cc] rfl rfl 26 #[.string ⟨#[]⟩, .slice none 0 0, .slice none 0 0, .slice none 0 0] (unhide HO7) (by kernel_rfl) rfl (by simp [Value.oneCell']) ?_))
      exact bodyPost_ret (v := .tuple #[.agg #[.string y.nm, .slice y.ao y.T.length y.cap, .slice y.fo y.F.length y.fc, .slice y.co y.C.length y.cc], .int .i64 ((0 : Nat) : Int), .int .i64 0]) (results_md rfl _ _ w.heap.size _ _ _ rfl rfl rfl (unhide HZ) rfl) rfl ⟨y, 0, 0, rfl, unhide HDR, unhide HMb, unhide HBb⟩
end Go.Proofs.YtibgfdjopikafaaGreatDoor
