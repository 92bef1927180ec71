/-
  Texts of contracts and plain lemmas, one behind another; each says at its head what it holds.
-/
import Derived.Test.YtibgfdjopikafaaGreatDoorJDA
import Derived.Test.YtibgfdjopikafaaGreatDoorKMq0
/-
  The module's reader: a class. Conditions: none but that the reader is one.
-/
namespace Go.Proofs.YtibgfdjopikafaaGreatDoor
open Go.RowKit
set_option maxRecDepth 20000
set_option linter.unusedVariables false
set_option linter.unusedSimpArgs false

/-- The reader within a function of its own: its box, and all else that stays. -/
structure C0 (w wx : World) (p g cap : Nat) (l : List UInt8) (k : Nat) (t : TypeId) (z : Array Value) : Prop where
  rd : IsReader wx p g cap l k
  gr : w.grownBy wx (some p)
  bx : Bx wx w.heap.size 112 #[.pointer (some ⟨p, 0, none⟩), .int .i64 (l.length : Int)]
  out : Bx wx (w.heap.size + 1) t z
  pl : p < w.heap.size
  sz : w.heap.size + 2 ≤ wx.heap.size
theorem C0.step {w wx w' : World} {p g cap : Nat} {l : List UInt8} {k k' : Nat} {t : TypeId} {z : Array Value} (h : C0 w wx p g cap l k t z) (hr : IsReader w' p g cap l k') (hg : wx.grownBy w' (some p)) : C0 w w' p g cap l k' t z :=
  ⟨hr, grown_trans h.gr hg, h.bx.grown hg (fun e => by have := h.pl; injection e with e; omega), h.out.grown hg (fun e => by have := h.pl; injection e with e; omega), h.pl, Nat.le_trans h.sz hg.size⟩
theorem C0.below {w wx w' : World} {p g cap : Nat} {l : List UInt8} {k : Nat} {t : TypeId} {z : Array Value} (h : C0 w wx p g cap l k t z) (hb : Below wx.heap.size wx w') : C0 w w' p g cap l k t z :=
  ⟨h.rd.below hb, grown_below_trans h.gr hb, h.bx.below hb, h.out.below hb, h.pl, Nat.le_trans h.sz hb.size⟩
/-- A store to a block of one's own. -/
theorem C0.own {w wx w' : World} {p g cap : Nat} {l : List UInt8} {k gc : Nat} {t : TypeId} {z : Array Value} (h : C0 w wx p g cap l k t z) (hg : wx.grownBy w' (some gc)) (hc : w.heap.size + 2 ≤ gc) (hng : g ≠ gc) : C0 w w' p g cap l k t z :=
  ⟨h.rd.kept hg (fun e => by have := h.pl; injection e with e; omega) (fun e => by injection e with e; exact hng e), grownBy_more h.gr hg (fun q e => Or.inl (by injection e with e; omega)), h.bx.grown hg (fun e => by injection e with e; omega), h.out.grown hg (fun e => by injection e with e; omega), h.pl, Nat.le_trans h.sz hg.size⟩
theorem box_step {wx w' : World} {p gc : Nat} {t : TypeId} {cs : Array Value} (h : Bx wx gc t cs) (hg : wx.grownBy w' (some p)) (hp : p ≠ gc) : Bx w' gc t cs := h.grown hg (fun e => hp (by injection e))
theorem C0.row {w wx w' : World} {p g cap : Nat} {l : List UInt8} {k : Nat} {t : TypeId} {z : Array Value} {v : Value} (h : C0 w wx p g cap l k t z) (hg : wx.grownBy w' v.ownBlock) (hv : ∀ q, v.ownBlock = some q → w.heap.size + 2 ≤ q) (hgl : g < w.heap.size) : C0 w w' p g cap l k t z := by
  cases e : v.ownBlock with
  | none => rw [e] at hg; exact h.below ⟨hg.os, hg.tape, hg.output, hg.size, fun q hq => hg.block q hq (by simp)⟩
  | some q => rw [e] at hg; have := hv q e; exact h.own hg this (by omega)
theorem fl_of (s : List UInt8) (t : Nat) : flC ⟨⟨s.toArray⟩, t⟩ = (s, t) := by
  show ((⟨s.toArray⟩ : ByteArray).toList, t) = (s, t)
  rw [ByteArray.toList_eq]
theorem parI_bd {n : Nat} (h : n < 256) : -9223372036854775808 ≤ parI n ∧ parI n ≤ 9223372036854775807 := by unfold parI; split <;> omega
theorem infoFd : (Tryz.prog.info? 83).map (fun i => (i.zero, i.size, i.bytes)) = some (some (.agg #[.string ⟨#[]⟩, .int .u8 0]), 2, 24) := by kernel_rfl
theorem nm_small {L : List UInt8} {k : Nat} {s : List UInt8} {k' : Nat} (h : nmP L k = .ok (s, k')) : (⟨s.toArray⟩ : ByteArray).size ≤ 255 := by
  unfold nmP at h
  split at h
  · injection h with h
    injection h with h _
    subst h
    have := nmN_lt L k
    show (nmS L k).toArray.size ≤ 255
    unfold nmS
    simp
    omega
  · cases h
theorem rep_ok {α : Type} {p : List UInt8 → Nat → PR α} {L : List UInt8} {k k' r : Nat} {x : α} (A : List α) (h : p L k = .ok (x, k')) : (bndP (repP p (r + 1) L k) fun xs j => (.ok (A ++ xs, j) : PR (List α))) = bndP (repP p r L k') fun xs j => (.ok ((A ++ [x]) ++ xs, j) : PR (List α)) := by
  show (bndP (bndP (p L k) fun x k1 => bndP (repP p r L k1) fun xs k2 => .ok (x :: xs, k2)) fun xs j => (.ok (A ++ xs, j) : PR (List α))) = _
  rw [h]
  show (bndP (bndP (repP p r L k') fun xs k2 => .ok (x :: xs, k2)) fun xs j => (.ok (A ++ xs, j) : PR (List α))) = _
  cases repP p r L k' with
  | error e => rfl
  | ok y =>
    obtain ⟨ys, j⟩ := y
    show (.ok (A ++ (x :: ys), j) : PR (List α)) = .ok ((A ++ [x]) ++ ys, j)
    rw [List.append_assoc]
    rfl
theorem rep_no {α : Type} {p : List UInt8 → Nat → PR α} {L : List UInt8} {k r : Nat} {e : Nat × Int} (A : List α) (h : p L k = .error e) : (bndP (repP p (r + 1) L k) fun xs j => (.ok (A ++ xs, j) : PR (List α))) = .error e := by
  show (bndP (bndP (p L k) fun x k1 => bndP (repP p r L k1) fun xs k2 => .ok (x :: xs, k2)) fun xs j => (.ok (A ++ xs, j) : PR (List α))) = _
  rw [h]; rfl
theorem rep_end {α : Type} {p : List UInt8 → Nat → PR α} {L : List UInt8} {k : Nat} (A : List α) : (bndP (repP p 0 L k) fun xs j => (.ok (A ++ xs, j) : PR (List α))) = .ok (A, k) := by
  show (.ok (A ++ [], k) : PR (List α)) = _
  rw [List.append_nil]
theorem rep_start {α : Type} (r : PR (List α)) : (bndP r fun xs j => (.ok ([] ++ xs, j) : PR (List α))) = r := by
  cases r with
  | error e => rfl
  | ok y => rfl
set_option maxHeartbeats 16000000 in
theorem rclass {w : World} {p g cap : Nat} {l : List UInt8} {k : Nat} (h : IsReader w p g cap l k) : Calls Tryz.prog 105 #[.agg #[.pointer (some ⟨p, 0, none⟩), .int .i64 (l.length : Int)]] w (RP w p g cap l (clP l k) (fun x v W => ∃ y : Cl, v = .agg #[.string y.nm, .int .i64 y.par, .slice y.fo y.fs.length y.fc] ∧ clC y = x ∧ clN.ok W y ∧ clN.all (fun b => w.heap.size ≤ b) y)) := by
  obtain ⟨i0, hi0, hz0, hz1, hz2⟩ := info_parts infoFd
  have al1 := (Below.refl w.heap.size w).alloc (Nat.le_refl _) (.cells #[.pointer (some ⟨p, 0, none⟩), .int .i64 (l.length : Int)] 112)
  have al := al1.alloc (by simp) (.cells #[.string ⟨#[]⟩, .int .i64 0, .slice none 0 0] 80)
  have n1 := heap_alloc_new w (.cells #[.pointer (some ⟨p, 0, none⟩), .int .i64 (l.length : Int)] 112)
  have n2 := heap_alloc_new (w.alloc (.cells #[.pointer (some ⟨p, 0, none⟩), .int .i64 (l.length : Int)] 112)) (.cells #[.string ⟨#[]⟩, .int .i64 0, .slice none 0 0] 80)
  rw [World.size_alloc] at n2
  have HX0 : Hid (Bx ((w.alloc (.cells #[.pointer (some ⟨p, 0, none⟩), .int .i64 (l.length : Int)] 112)).alloc (.cells #[.string ⟨#[]⟩, .int .i64 0, .slice none 0 0] 80)) w.heap.size 112 #[.pointer (some ⟨p, 0, none⟩), .int .i64 (l.length : Int)]) := hide ((((Below.refl _ _).alloc (Nat.le_refl _) _).block w.heap.size (by simp)).trans n1)
  have HC : Hid (C0 w ((w.alloc (.cells #[.pointer (some ⟨p, 0, none⟩), .int .i64 (l.length : Int)] 112)).alloc (.cells #[.string ⟨#[]⟩, .int .i64 0, .slice none 0 0] 80)) p g cap l k 80 #[.string ⟨#[]⟩, .int .i64 0, .slice none 0 0]) := hide ⟨h.below al, grown_of_below al _, unhide HX0, n2, h.pl, by simp⟩
  have hpl : p < w.heap.size := h.pl
  have hgl : g < w.heap.size := h.gl
  have mixed := mixedT
  clear al1 al n1 n2 HX0 h
  go_enter Tryz.func105, Tryz.ntmps105
  go_upto_region 1 with fail
  generalize ((w.alloc (.cells #[.pointer (some ⟨p, 0, none⟩), .int .i64 (l.length : Int)] 112)).alloc (.cells #[.string ⟨#[]⟩, .int .i64 0, .slice none 0 0] 80)) = W1 at HC ⊢
  go_cut [3] (fun s3 wx => ∃ (gc k1 k2 : Nat) (nm : List UInt8) (n : Nat), s3 = .pointer (some ⟨gc, 0, none⟩) ∧ Hid (nmP l k = .ok (nm, k1)) ∧ Hid (byP l k1 = .ok (n, k2)) ∧ Hid (n < 256) ∧ Hid (C0 w wx p g cap l k2 80 #[.string ⟨#[]⟩, .int .i64 0, .slice none 0 0]) ∧ Hid (Bx wx gc 80 #[.string ⟨nm.toArray⟩, .int .i64 (n : Int), .slice none 0 0]) ∧ Hid (w.heap.size + 2 ≤ gc ∧ gc < wx.heap.size))
  case first =>
    have hC := (unhide HC).below (Below.drew (Below.refl _ _))
    refine wp_region_held_drew (S := fun w' => Bx w' w.heap.size 112 #[.pointer (some ⟨p, 0, none⟩), .int .i64 (l.length : Int)]) mixed hC.bx (fun hS => ?_)
    have HC1 := hide hC
    clear hC HC
    generalize W1.drew = Wd at hS HC1 ⊢
    refine wpAnyH_take (i := 0) (v := .agg #[.pointer (some ⟨p, 0, none⟩), .int .i64 (l.length : Int)]) rfl (by kernel_rfl) (by kernel_rfl) (by kernel_rfl) (fun _ _ _ h => h) (Or.inl ⟨by rfl, fun W h => by have h0 := h.c 0 rfl; have h1 := h.c 1 rfl; go_simp⟩) hS ?_
    go_simp
    refine wpAnyH_take (i := 2) (v := .agg #[.pointer (some ⟨p, 0, none⟩), .int .i64 (l.length : Int)]) rfl (by kernel_rfl) (by kernel_rfl) (by kernel_rfl) (fun _ _ _ h => h) (Or.inl ⟨by rfl, fun W h => by have h0 := h.c 0 rfl; have h1 := h.c 1 rfl; go_simp⟩) hS ?_
    go_simp
    refine wpAnyH_ready (rs := [1, 5]) (by kernel_rfl) (by simp) ?_
    refine AllReadyH.cons rfl (fun KK hK => ?_) ?_
    · go_simp
      have HK := hide (rname (unhide HC1).rd)
      refine (unhide HK).mono ?_
      rintro e W11 (⟨nm, k1, v, hm, rfl, rfl, hr, hg⟩ | ⟨a, er, hm, rfl, hg⟩)
      rotate_left
      · exact ⟨rfl, Or.inr ⟨_, _, by rw [clP, hm]; rfl, rfl, grown_trans (unhide HC1).gr hg⟩⟩
      have HC11 := hide ((unhide HC1).step hr hg)
      have HNM := hide hm
      refine hK.out _ _ (unhide HC11).bx (fun hS => ?_)
      clear hK KK HK hm hr hg HC1
      refine wpAnyH_ready (rs := [3, 5]) (by kernel_rfl) (by simp) ?_
      refine AllReadyH.cons rfl (fun KK hK => ?_) ?_
      · go_simp
        have HK := hide (rbyte (unhide HC11).rd)
        refine (unhide HK).mono ?_
        rintro e W12 (⟨n, k2, v, hm, rfl, rfl, hr, hg⟩ | ⟨a, er, hm, rfl, hg⟩)
        rotate_left
        · exact ⟨rfl, Or.inr ⟨_, _, by rw [clP, unhide HNM]; show bndP (byP l k1) _ = _; rw [hm]; rfl, rfl, grown_trans (unhide HC11).gr hg⟩⟩
        have HC12 := hide ((unhide HC11).step hr hg)
        have HBY := hide hm
        have HNL := hide (byP_lt hm)
        refine hK.out _ _ (unhide HC12).bx (fun hS => ?_)
        clear hK KK HK hm hr hg HC11
        refine wpAnyH_take (i := 4) (v := .agg #[.string ⟨nm.toArray⟩, .int .i64 (n : Int), .slice none 0 0]) rfl (by kernel_rfl) (by kernel_rfl) (by kernel_rfl) (fun _ _ _ h => h) (Or.inl ⟨by rfl, fun W _ => by go_simp⟩) hS ?_
        go_simp
        refine wpAnyH_ready (rs := [5]) (by kernel_rfl) (by simp) ?_
        refine AllReadyH.cons rfl (fun KK hK => ?_) AllReadyH.nil
        go_simp
        have al : Below W12.heap.size W12 (W12.alloc (.cells #[.string ⟨#[]⟩, .int .i64 0, .slice none 0 0] 80)) := (Below.refl _ _).alloc (Nat.le_refl _) _
        have HB13 : Hid (Bx (W12.alloc (.cells #[.string ⟨#[]⟩, .int .i64 0, .slice none 0 0] 80)) W12.heap.size 80 #[.string ⟨#[]⟩, .int .i64 0, .slice none 0 0]) := hide (heap_alloc_new _ _)
        have HC13 := hide ((unhide HC12).below al)
        have HGC : Hid (w.heap.size + 2 ≤ W12.heap.size ∧ True) := hide ⟨(unhide HC12).sz, trivial⟩
        refine hK.out _ _ (unhide HC13).bx (fun hS => ?_)
        clear hK KK al HC12
        generalize W12.alloc (.cells #[.string ⟨#[]⟩, .int .i64 0, .slice none 0 0] 80) = W13 at hS HB13 HC13 ⊢
        generalize W12.heap.size = gc at HB13 HGC ⊢
        refine wpAnyH_ready (rs := [6]) (by kernel_rfl) (by simp) ?_
        refine AllReadyH.cons rfl (fun KK hK => ?_) AllReadyH.nil
        have q0 := (unhide HB13).c 0 rfl
        have q1 := (unhide HB13).c 1 rfl
        have q2 := (unhide HB13).c 2 rfl
        have HZ14 : Hid (Bx (W13.setRow gc #[.string ⟨nm.toArray⟩, .int .i64 (n : Int), .slice none 0 0]) gc 80 #[.string ⟨nm.toArray⟩, .int .i64 (n : Int), .slice none 0 0]) := hide (setRow_heap _ _ _ _ _ _ (unhide HB13))
        have hgw := grown_row (W := W13) gc #[.string ⟨nm.toArray⟩, .int .i64 (n : Int), .slice none 0 0]
        have HC14 := hide ((unhide HC13).own hgw (unhide HGC).1 (by have := (unhide HGC).1; omega))
        have HGL := hide (Nat.lt_of_lt_of_le (unhide HB13).lt hgw.size)
        clear q0 q1 q2 hgw
        rw [if_pos (by rfl)]
        refine wp_store_row 80 _ _ rfl gc #[.string ⟨nm.toArray⟩, .int .i64 (n : Int), .slice none 0 0] rfl rfl 80 #[.string ⟨#[]⟩, .int .i64 0, .slice none 0 0] (unhide HB13) (by kernel_rfl) rfl (by simp [Value.oneCell']) ?_
        refine hK.out _ _ (unhide HC14).bx (fun hS => ?_)
        clear hK KK
        refine wpAnyH_done (by kernel_rfl) ?_ _
        go_wp2_with fail
        go_meet
        exact ⟨gc, _, _, nm, n, rfl, HNM, HBY, HNL, HC14, HZ14, hide ⟨(unhide HGC).1, unhide HGL⟩⟩
      · refine AllReadyH.cons rfl (fun KK hK => ?_) AllReadyH.nil
        go_simp
        have al : Below W11.heap.size W11 (W11.alloc (.cells #[.string ⟨#[]⟩, .int .i64 0, .slice none 0 0] 80)) := (Below.refl _ _).alloc (Nat.le_refl _) _
        have HB15 : Hid (Bx (W11.alloc (.cells #[.string ⟨#[]⟩, .int .i64 0, .slice none 0 0] 80)) W11.heap.size 80 #[.string ⟨#[]⟩, .int .i64 0, .slice none 0 0]) := hide (heap_alloc_new _ _)
        have HC15 := hide ((unhide HC11).below al)
        have HGC : Hid (w.heap.size + 2 ≤ W11.heap.size ∧ True) := hide ⟨(unhide HC11).sz, trivial⟩
        refine hK.out _ _ (unhide HC15).bx (fun hS => ?_)
        clear hK KK al HC11
        generalize W11.alloc (.cells #[.string ⟨#[]⟩, .int .i64 0, .slice none 0 0] 80) = W15 at hS HB15 HC15 ⊢
        generalize W11.heap.size = gc at HB15 HGC ⊢
        refine wpAnyH_ready (rs := [3]) (by kernel_rfl) (by simp) ?_
        refine AllReadyH.cons rfl (fun KK hK => ?_) AllReadyH.nil
        go_simp
        have HK := hide (rbyte (unhide HC15).rd)
        refine (unhide HK).mono ?_
        rintro e W16 (⟨n, k2, v, hm, rfl, rfl, hr, hg⟩ | ⟨a, er, hm, rfl, hg⟩)
        rotate_left
        · exact ⟨rfl, Or.inr ⟨_, _, by rw [clP, unhide HNM]; show bndP (byP l k1) _ = _; rw [hm]; rfl, rfl, grown_trans (unhide HC15).gr hg⟩⟩
        have HC16 := hide ((unhide HC15).step hr hg)
        have HBY := hide hm
        have HNL := hide (byP_lt hm)
        have HB16 := hide (box_step (unhide HB15) hg (by have := (unhide HGC).1; omega))
        refine hK.out _ _ (unhide HC16).bx (fun hS => ?_)
        clear hK KK HK hm hr hg HC15 HB15
        refine wpAnyH_take (i := 4) (v := .agg #[.string ⟨nm.toArray⟩, .int .i64 (n : Int), .slice none 0 0]) rfl (by kernel_rfl) (by kernel_rfl) (by kernel_rfl) (fun _ _ _ h => h) (Or.inl ⟨by rfl, fun W _ => by go_simp⟩) hS ?_
        go_simp
        refine wpAnyH_ready (rs := [6]) (by kernel_rfl) (by simp) ?_
        refine AllReadyH.cons rfl (fun KK hK => ?_) AllReadyH.nil
        have q0 := (unhide HB16).c 0 rfl
        have q1 := (unhide HB16).c 1 rfl
        have q2 := (unhide HB16).c 2 rfl
        have HZ17 : Hid (Bx (W16.setRow gc #[.string ⟨nm.toArray⟩, .int .i64 (n : Int), .slice none 0 0]) gc 80 #[.string ⟨nm.toArray⟩, .int .i64 (n : Int), .slice none 0 0]) := hide (setRow_heap _ _ _ _ _ _ (unhide HB16))
        have hgw := grown_row (W := W16) gc #[.string ⟨nm.toArray⟩, .int .i64 (n : Int), .slice none 0 0]
        have HC17 := hide ((unhide HC16).own hgw (unhide HGC).1 (by have := (unhide HGC).1; omega))
        have HGL := hide (Nat.lt_of_lt_of_le (unhide HB16).lt hgw.size)
        clear q0 q1 q2 hgw
        rw [if_pos (by rfl)]
        refine wp_store_row 80 _ _ rfl gc #[.string ⟨nm.toArray⟩, .int .i64 (n : Int), .slice none 0 0] rfl rfl 80 #[.string ⟨#[]⟩, .int .i64 0, .slice none 0 0] (unhide HB16) (by kernel_rfl) rfl (by simp [Value.oneCell']) ?_
        refine hK.out _ _ (unhide HC17).bx (fun hS => ?_)
        clear hK KK
        refine wpAnyH_done (by kernel_rfl) ?_ _
        go_wp2_with fail
        go_meet
        exact ⟨gc, _, _, nm, n, rfl, HNM, HBY, HNL, HC17, HZ17, hide ⟨(unhide HGC).1, unhide HGL⟩⟩
    · refine AllReadyH.cons rfl (fun KK hK => ?_) AllReadyH.nil
      go_simp
      have al : Below Wd.heap.size Wd (Wd.alloc (.cells #[.string ⟨#[]⟩, .int .i64 0, .slice none 0 0] 80)) := (Below.refl _ _).alloc (Nat.le_refl _) _
      have HB18 : Hid (Bx (Wd.alloc (.cells #[.string ⟨#[]⟩, .int .i64 0, .slice none 0 0] 80)) Wd.heap.size 80 #[.string ⟨#[]⟩, .int .i64 0, .slice none 0 0]) := hide (heap_alloc_new _ _)
      have HC18 := hide ((unhide HC1).below al)
      have HGC : Hid (w.heap.size + 2 ≤ Wd.heap.size ∧ True) := hide ⟨(unhide HC1).sz, trivial⟩
      refine hK.out _ _ (unhide HC18).bx (fun hS => ?_)
      clear hK KK al HC1
      generalize Wd.alloc (.cells #[.string ⟨#[]⟩, .int .i64 0, .slice none 0 0] 80) = W18 at hS HB18 HC18 ⊢
      generalize Wd.heap.size = gc at HB18 HGC ⊢
      refine wpAnyH_ready (rs := [1]) (by kernel_rfl) (by simp) ?_
      refine AllReadyH.cons rfl (fun KK hK => ?_) AllReadyH.nil
      go_simp
      have HK := hide (rname (unhide HC18).rd)
      refine (unhide HK).mono ?_
      rintro e W19 (⟨nm, k1, v, hm, rfl, rfl, hr, hg⟩ | ⟨a, er, hm, rfl, hg⟩)
      rotate_left
      · exact ⟨rfl, Or.inr ⟨_, _, by rw [clP, hm]; rfl, rfl, grown_trans (unhide HC18).gr hg⟩⟩
      have HC19 := hide ((unhide HC18).step hr hg)
      have HNM := hide hm
      have HB19 := hide (box_step (unhide HB18) hg (by have := (unhide HGC).1; omega))
      refine hK.out _ _ (unhide HC19).bx (fun hS => ?_)
      clear hK KK HK hm hr hg HC18 HB18
      refine wpAnyH_ready (rs := [3]) (by kernel_rfl) (by simp) ?_
      refine AllReadyH.cons rfl (fun KK hK => ?_) AllReadyH.nil
      go_simp
      have HK := hide (rbyte (unhide HC19).rd)
      refine (unhide HK).mono ?_
      rintro e W20 (⟨n, k2, v, hm, rfl, rfl, hr, hg⟩ | ⟨a, er, hm, rfl, hg⟩)
      rotate_left
      · exact ⟨rfl, Or.inr ⟨_, _, by rw [clP, unhide HNM]; show bndP (byP l k1) _ = _; rw [hm]; rfl, rfl, grown_trans (unhide HC19).gr hg⟩⟩
      have HC20 := hide ((unhide HC19).step hr hg)
      have HBY := hide hm
      have HNL := hide (byP_lt hm)
      have HB20 := hide (box_step (unhide HB19) hg (by have := (unhide HGC).1; omega))
      refine hK.out _ _ (unhide HC20).bx (fun hS => ?_)
      clear hK KK HK hm hr hg HC19 HB19
      refine wpAnyH_take (i := 4) (v := .agg #[.string ⟨nm.toArray⟩, .int .i64 (n : Int), .slice none 0 0]) rfl (by kernel_rfl) (by kernel_rfl) (by kernel_rfl) (fun _ _ _ h => h) (Or.inl ⟨by rfl, fun W _ => by go_simp⟩) hS ?_
      go_simp
      refine wpAnyH_ready (rs := [6]) (by kernel_rfl) (by simp) ?_
      refine AllReadyH.cons rfl (fun KK hK => ?_) AllReadyH.nil
      have q0 := (unhide HB20).c 0 rfl
      have q1 := (unhide HB20).c 1 rfl
      have q2 := (unhide HB20).c 2 rfl
      have HZ21 : Hid (Bx (W20.setRow gc #[.string ⟨nm.toArray⟩, .int .i64 (n : Int), .slice none 0 0]) gc 80 #[.string ⟨nm.toArray⟩, .int .i64 (n : Int), .slice none 0 0]) := hide (setRow_heap _ _ _ _ _ _ (unhide HB20))
      have hgw := grown_row (W := W20) gc #[.string ⟨nm.toArray⟩, .int .i64 (n : Int), .slice none 0 0]
      have HC21 := hide ((unhide HC20).own hgw (unhide HGC).1 (by have := (unhide HGC).1; omega))
      have HGL := hide (Nat.lt_of_lt_of_le (unhide HB20).lt hgw.size)
      clear q0 q1 q2 hgw
      rw [if_pos (by rfl)]
      refine wp_store_row 80 _ _ rfl gc #[.string ⟨nm.toArray⟩, .int .i64 (n : Int), .slice none 0 0] rfl rfl 80 #[.string ⟨#[]⟩, .int .i64 0, .slice none 0 0] (unhide HB20) (by kernel_rfl) rfl (by simp [Value.oneCell']) ?_
      refine hK.out _ _ (unhide HC21).bx (fun hS => ?_)
      clear hK KK
      refine wpAnyH_done (by kernel_rfl) ?_ _
      go_wp2_with fail
      go_meet
      exact ⟨gc, _, _, nm, n, rfl, HNM, HBY, HNL, HC21, HZ21, hide ⟨(unhide HGC).1, unhide HGL⟩⟩
  case rest =>
    obtain ⟨gc, k1, k2, nm, n, rfl, HNM, HBY, HNL, HC1, HB1, HGC⟩ := hcut
    have hnl := unhide HNL
    have c1 := (unhide HB1).c 1 rfl
    have f1 := (unhide HB1).f 1
    clear HC
    go_upto_if 11 with fail
    go_cut [] (fun wx => Hid (C0 w wx p g cap l k2 80 #[.string ⟨#[]⟩, .int .i64 0, .slice none 0 0]) ∧ Hid (Bx wx gc 80 #[.string ⟨nm.toArray⟩, .int .i64 (parI n), .slice none 0 0]) ∧ Hid (w.heap.size + 2 ≤ gc ∧ gc < wx.heap.size))
    case first =>
      by_cases h5 : n = 255
      · have t0 : ((n : Int) == 255) = true := beq_t (by omega)
        have HP : Hid (parI n = -1) := hide (by unfold parI; rw [if_pos h5])
        clear h5 HNM HBY
        go_wp2_with fail
        go_meet
        exact ⟨hide ((unhide HC1).own (grownBy_set _ gc 1 _) (unhide HGC).1 (by have := (unhide HGC).1; omega)), hide (by rw [unhide HP]; exact (unhide HB1).set 1 (.int .i64 (-1)) rfl), hide ⟨(unhide HGC).1, by have := (unhide HGC).2; simpa [World.setCell] using this⟩⟩
      · have t0 : ((n : Int) == 255) = false := beq_f (by omega)
        have HP : Hid (parI n = (n : Int)) := hide (by unfold parI; rw [if_neg h5])
        clear h5 HNM HBY
        go_wp2_with fail
        go_meet
        exact ⟨HC1, hide (by rw [unhide HP]; exact unhide HB1), HGC⟩
    case rest =>
      clear HC1 HB1 HGC c1 f1
      obtain ⟨HC2, HB2, HGC⟩ := hcut
      have k0 := (unhide HC2).bx.c 0 rfl
      have k1' := (unhide HC2).bx.c 1 rfl
      have HK := hide (rcount (unhide HC2).rd 32)
      go_wp2_with fail
      refine (unhide HK).mono ?_
      rintro e W3 (⟨m, k3, v, hm, rfl, ⟨rfl, hm8⟩, hr, hg⟩ | ⟨a, er, hm, rfl, hg⟩)
      rotate_left
      · exact ⟨rfl, Or.inr ⟨_, _, by rw [clP, unhide HNM]; show bndP (byP l k1) _ = _; rw [unhide HBY]; show bndP (coP 32 l k2) _ = _; rw [hm]; rfl, rfl, grown_trans (unhide HC2).gr hg⟩⟩
      have HC3 := hide ((unhide HC2).step hr hg)
      have HB3 := hide (box_step (unhide HB2) hg (by have := (unhide HGC).1; omega))
      have HCO := hide hm
      have hb3 : w.heap.size + 2 ≤ gc ∧ gc < W3.heap.size := ⟨(unhide HGC).1, Nat.lt_of_lt_of_le (unhide HGC).2 hg.size⟩
      obtain ⟨base, HBS⟩ : ∃ base, base = W3.heap.size := ⟨_, rfl⟩
      have HLO : Hid (w.heap.size + 2 ≤ gc ∧ gc < base) := hide ⟨hb3.1, by omega⟩
      have HBL : Hid (base ≤ W3.heap.size) := hide (by omega)
      have HM32 : Hid (m ≤ 32) := hide (by
        unfold coP at hm
        cases hy : byP l k2 with
        | error e => rw [hy] at hm; cases hm
        | ok y =>
          rw [hy] at hm
          have hm : (if 32 < y.1 then .error (k2, 4) else .ok (y.1, y.2) : PR Nat) = .ok (m, k3) := hm
          split at hm
          · cases hm
          · injection hm with hm; injection hm with hm _; omega)
      clear hm hr hg HK HC2 HB2 HGC k0 k1' hb3 HBS
      go_wp2_with fail
      go_loopw [15] (fun i wr => ∃ (q : Nat) (M : List Fl) (kq : Nat) (v : Value), q ≤ m ∧ i = .int .i64 (q : Int) ∧ Hid (C0 w wr p g cap l kq 80 #[.string ⟨#[]⟩, .int .i64 0, .slice none 0 0]) ∧ Hid (Bx wr gc 80 #[.string ⟨nm.toArray⟩, .int .i64 (parI n), v]) ∧ Hid (Bld flN wr base v M) ∧ Hid (base ≤ wr.heap.size) ∧ Hid (M.length = q) ∧ Hid ((bndP (repP fdP (m - q) l kq) fun xs j => (.ok (M.map flC ++ xs, j) : PR (List FlC))) = repP fdP m l k3)) (fun i _ => m - (intOf i).toNat)
      case atStart => exact ⟨0, [], k3, .slice none 0 0, by omega, rfl, HC3, HB3, hide (Bld.nil _ _ _), HBL, hide rfl, hide (rep_start _)⟩
      case round =>
        clear HC3 HB3 HBL
        obtain ⟨q, M, kq, v, hq, rfl, HC4, HB4, HD4, HBL, HML, HRP⟩ := hrel
        by_cases hlt : q < m
        · have i1 : ((q : Nat) : Int) < ((m : Nat) : Int) := by omega
          obtain ⟨r, HRE⟩ : ∃ r, Hid (m - q = r + 1) := ⟨m - q - 1, hide (by omega)⟩
          obtain ⟨va, vc, rfl⟩ := (unhide HD4).slice
          have HVL : Hid (∀ x, (Value.slice va M.length vc).ownBlock = some x → base ≤ x) := hide (fun x e => (World.ownsRow.lt (unhide HD4).own x e).1)
          rw [unhide HRE] at HRP
          go_upto_region 6 with fail
          refine wp_region_held_drew (S := fun w' => Bx w' w.heap.size 112 #[.pointer (some ⟨p, 0, none⟩), .int .i64 (l.length : Int)]) mixed ((unhide HC4).below (Below.drew (Below.refl _ _))).bx (fun hS => ?_)
          have HC5 := hide ((unhide HC4).below (Below.drew (Below.refl _ _)))
          have HB5 := hide ((unhide HB4).below (Below.drew (Below.refl _ _)))
          have HD5 := hide ((unhide HD4).below (Below.drew (Below.refl _ _)))
          have HL5 : Hid (base ≤ wr.drew.heap.size) := hide (unhide HBL)
          clear HC4 HB4 HD4 HBL
          generalize wr.drew = Wd at hS HC5 HB5 HD5 HL5 ⊢
          refine wpAnyH_take (i := 0) (v := .pointer (some ⟨gc, 2, none⟩)) rfl (by kernel_rfl) (by kernel_rfl) (by kernel_rfl) (fun _ _ _ h => h) (Or.inl ⟨by rfl, fun W _ => by go_simp⟩) hS ?_
          go_simp
          refine wpAnyH_take (i := 2) (v := .agg #[.pointer (some ⟨p, 0, none⟩), .int .i64 (l.length : Int)]) rfl (by kernel_rfl) (by kernel_rfl) (by kernel_rfl) (fun _ _ _ h => h) (Or.inl ⟨by rfl, fun W h => by have h0 := h.c 0 rfl; have h1 := h.c 1 rfl; go_simp⟩) hS ?_
          go_simp
          refine wpAnyH_take (i := 4) (v := .agg #[.pointer (some ⟨p, 0, none⟩), .int .i64 (l.length : Int)]) rfl (by kernel_rfl) (by kernel_rfl) (by kernel_rfl) (fun _ _ _ h => h) (Or.inl ⟨by rfl, fun W h => by have h0 := h.c 0 rfl; have h1 := h.c 1 rfl; go_simp⟩) hS ?_
          go_simp
          refine wpAnyH_ready (rs := [1, 3]) (by kernel_rfl) (by simp) ?_
          refine AllReadyH.cons rfl (fun KK hK => ?_) ?_
          · have q2 := (unhide HB5).c 2 rfl
            go_simp
            refine hK.out _ _ (unhide HC5).bx (fun hS => ?_)
            clear hK KK q2
            refine wpAnyH_ready (rs := [3]) (by kernel_rfl) (by simp) ?_
            refine AllReadyH.cons rfl (fun KK hK => ?_) AllReadyH.nil
            go_simp
            have HK := hide (rname (unhide HC5).rd)
            refine (unhide HK).mono ?_
            rintro e W23 (⟨s, ks, v, hm, rfl, rfl, hr, hg⟩ | ⟨a, er, hm, rfl, hg⟩)
            rotate_left
            · have hfd : fdP l kq = .error (a, er) := by rw [fdP, hm]; rfl
              exact ⟨rfl, Or.inr ⟨_, _, by rw [clP, unhide HNM]; show bndP (byP l k1) _ = _; rw [unhide HBY]; show bndP (coP 32 l k2) _ = _; rw [unhide HCO]; show bndP (repP fdP m l k3) _ = _; rw [← unhide HRP, rep_no _ hfd]; rfl, rfl, grown_trans (unhide HC5).gr hg⟩⟩
            have HC23 := hide ((unhide HC5).step hr hg)
            have HB23 := hide (box_step (unhide HB5) hg (by have := (unhide HLO).1; omega))
            have HD23 := hide ((unhide HD5).box hg (by have := (unhide HLO); omega))
            have HL23 : Hid (base ≤ W23.heap.size) := hide (Nat.le_trans (unhide HL5) hg.size)
            have HNS := hide hm
            refine hK.out _ _ (unhide HC23).bx (fun hS => ?_)
            clear hK KK HK hm hr hg HC5 HB5 HD5 HL5
            refine wpAnyH_ready (rs := [5]) (by kernel_rfl) (by simp) ?_
            refine AllReadyH.cons rfl (fun KK hK => ?_) AllReadyH.nil
            go_simp
            have HK := hide (rtype (unhide HC23).rd)
            refine (unhide HK).mono ?_
            rintro e W24 (⟨t, kt, v, hm, rfl, ⟨rfl, ht⟩, hr, hg⟩ | ⟨a, er, hm, rfl, hg⟩)
            rotate_left
            · have hfd : fdP l kq = .error (a, er) := by rw [fdP, unhide HNS]; show bndP (byP l ks) _ = _; rw [hm]; rfl
              exact ⟨rfl, Or.inr ⟨_, _, by rw [clP, unhide HNM]; show bndP (byP l k1) _ = _; rw [unhide HBY]; show bndP (coP 32 l k2) _ = _; rw [unhide HCO]; show bndP (repP fdP m l k3) _ = _; rw [← unhide HRP, rep_no _ hfd]; rfl, rfl, grown_trans (unhide HC23).gr hg⟩⟩
            have HC24 := hide ((unhide HC23).step hr hg)
            have HB24 := hide (box_step (unhide HB23) hg (by have := (unhide HLO).1; omega))
            have HD24 := hide ((unhide HD23).box hg (by have := (unhide HLO); omega))
            have HL24 : Hid (base ≤ W24.heap.size) := hide (Nat.le_trans (unhide HL23) hg.size)
            have HTL := hide ht
            have HFD : Hid (fdP l kq = .ok ((s, t), kt)) := hide (by rw [fdP, unhide HNS]; show bndP (byP l ks) _ = _; rw [hm]; rfl)
            refine hK.out _ _ (unhide HC24).bx (fun hS => ?_)
            clear hK KK HK hm hr hg HC23 HB23 HD23 HL23 ht
            refine wpAnyH_take (i := 6) (v := .agg #[.string ⟨s.toArray⟩, .int .u8 (t : Int)]) rfl (by kernel_rfl) (by kernel_rfl) (by kernel_rfl) (fun _ _ _ h => h) (Or.inl ⟨by rfl, fun W _ => by go_simp⟩) hS ?_
            go_simp
            refine wpAnyH_ready (rs := [7]) (by kernel_rfl) (by simp) ?_
            refine AllReadyH.cons rfl (fun KK hK => ?_) AllReadyH.nil
            go_simp
            have HA25 : Hid (C0 w (W24.alloc (.cells #[.string ⟨s.toArray⟩, .int .u8 (t : Int)] 83)) p g cap l kt 80 #[.string ⟨#[]⟩, .int .i64 0, .slice none 0 0]) := hide ((unhide HC24).below ((Below.refl _ _).alloc (Nat.le_refl _) _))
            have HBA25 := hide ((unhide HB24).below ((Below.refl W24.heap.size W24).alloc (Nat.le_refl _) (.cells #[.string ⟨s.toArray⟩, .int .u8 (t : Int)] 83)))
            refine hK.out _ _ (unhide HA25).bx (fun hS => ?_)
            clear hK KK
            refine wpAnyH_ready (rs := [8]) (by kernel_rfl) (by simp) ?_
            refine AllReadyH.cons rfl (fun KK hK => ?_) AllReadyH.nil
            refine step_append_lies _ (by rfl) _ _ 78 (by rfl) base 83 i0 _ 2 24 Tryz.underlying78 hi0 hz0 hz1 hz2 rfl (by omega) (.slice va M.length vc) M.length (vals flN M) (by rfl) (rowBelow (unhide HD24).own ((Below.refl _ _).alloc (Nat.le_refl _) _)) ⟨W24.heap.size, 0, none⟩ 1 1 (flN.cells ⟨⟨s.toArray⟩, t⟩) (by rfl) (by rfl) (World.news_of_block (cs := #[.string ⟨s.toArray⟩, .int .u8 (t : Int)]) (t := 83) (fr := (0, 0)) (heap_alloc_new W24 _)) (fun u hu => by simp [flN] at hu; rcases hu with rfl | rfl <;> rfl) (by omega) (by have := unhide HML; have := unhide HM32; unfold maxLen; omega) (by have := unhide HML; have := unhide HM32; omega) (by rw [World.size_alloc]; have := unhide HL24; omega) (W24.heap.size + 1) (by simp) ?_
            intro g3 cap3 W26 hown hgrow hat hlt3
            have al : Below W24.heap.size W24 (W24.alloc (.cells #[.string ⟨s.toArray⟩, .int .u8 (t : Int)] 83)) := (Below.refl _ _).alloc (Nat.le_refl _) _
            have HD26 : Hid (Bld flN W26 base (.slice (some ⟨g3, 0, none⟩) (M.length + 1) cap3) (M ++ [⟨⟨s.toArray⟩, t⟩])) := hide ((unhide HD24).snoc (y := ⟨⟨s.toArray⟩, t⟩) ⟨Nat.le_trans (nm_small (unhide HNS)) (by omega), unhide HTL⟩ trivial (fun _ _ => trivial) hown hgrow hat)
            have HC26 := hide (((unhide HC24).below al).row hgrow (fun x e => by have := unhide HVL x e; have := unhide HLO; omega) hgl)
            have HB26 := hide (((unhide HB24).below al).grown hgrow (fun e => by have := unhide HVL gc e; have := unhide HLO; omega))
            have HL26 : Hid (base ≤ W26.heap.size) := hide (by have := hgrow.size; rw [World.size_alloc] at this; have := unhide HL24; omega)
            refine hK.out _ _ (unhide HC26).bx (fun hS => ?_)
            clear hK KK hown hgrow hat hlt3 al HC24 HB24 HD24 HL24
            refine wpAnyH_take (i := 9) (v := .pointer (some ⟨gc, 2, none⟩)) rfl (by kernel_rfl) (by kernel_rfl) (by kernel_rfl) (fun _ _ _ h => h) (Or.inl ⟨by rfl, fun W _ => by go_simp⟩) hS ?_
            go_simp
            refine wpAnyH_ready (rs := [10]) (by kernel_rfl) (by simp) ?_
            refine AllReadyH.cons rfl (fun KK hK => ?_) AllReadyH.nil
            have q2 := (unhide HB26).c 2 rfl
            have f2 := (unhide HB26).f 2
            go_simp
            have hgs := grownBy_set W26 gc 2 (.slice (some ⟨g3, 0, none⟩) (M.length + 1) cap3)
            have HCn := hide ((unhide HC26).own hgs (unhide HLO).1 (by have := (unhide HLO).1; omega))
            have HBn : Hid (Bx (W26.setCell ⟨gc, 2, none⟩ (.slice (some ⟨g3, 0, none⟩) (M.length + 1) cap3)) gc 80 #[.string ⟨nm.toArray⟩, .int .i64 (parI n), .slice (some ⟨g3, 0, none⟩) (M.length + 1) cap3]) := hide ((unhide HB26).set 2 _ rfl)
            have HDn := hide ((unhide HD26).box hgs (unhide HLO).2)
            have HLn : Hid (base ≤ (W26.setCell ⟨gc, 2, none⟩ (.slice (some ⟨g3, 0, none⟩) (M.length + 1) cap3)).heap.size) := hide (Nat.le_trans (unhide HL26) hgs.size)
            have HMn : Hid ((M ++ [(⟨⟨s.toArray⟩, t⟩ : Fl)]).length = q + 1) := hide (by rw [List.length_append, unhide HML]; rfl)
            have HRn : Hid ((bndP (repP fdP (m - (q + 1)) l kt) fun xs j => (.ok ((M ++ [(⟨⟨s.toArray⟩, t⟩ : Fl)]).map flC ++ xs, j) : PR (List FlC))) = repP fdP m l k3) := hide (by
              rw [← unhide HRP, rep_ok (M.map flC) (unhide HFD), show m - (q + 1) = r by have := unhide HRE; omega, List.map_append, List.map_cons, List.map_nil, fl_of])
            clear q2 f2 hgs HC26 HB26 HD26 HL26 HRP HML
            refine hK.out _ _ (unhide HCn).bx (fun hS => ?_)
            clear hK KK hS
            refine wpAnyH_done (by kernel_rfl) ?_ _
            go_wp2
            go_roundw
            case rel => exact ⟨q + 1, _, kt, _, by omega, by go_num, HCn, HBn, HDn, HLn, HMn, HRn⟩
            case measure => simp [intOf]; omega
          · refine AllReadyH.cons rfl (fun KK hK => ?_) AllReadyH.nil
            go_simp
            have HK := hide (rname (unhide HC5).rd)
            refine (unhide HK).mono ?_
            rintro e W27 (⟨s, ks, v, hm, rfl, rfl, hr, hg⟩ | ⟨a, er, hm, rfl, hg⟩)
            rotate_left
            · have hfd : fdP l kq = .error (a, er) := by rw [fdP, hm]; rfl
              exact ⟨rfl, Or.inr ⟨_, _, by rw [clP, unhide HNM]; show bndP (byP l k1) _ = _; rw [unhide HBY]; show bndP (coP 32 l k2) _ = _; rw [unhide HCO]; show bndP (repP fdP m l k3) _ = _; rw [← unhide HRP, rep_no _ hfd]; rfl, rfl, grown_trans (unhide HC5).gr hg⟩⟩
            have HC27 := hide ((unhide HC5).step hr hg)
            have HB27 := hide (box_step (unhide HB5) hg (by have := (unhide HLO).1; omega))
            have HD27 := hide ((unhide HD5).box hg (by have := (unhide HLO); omega))
            have HL27 : Hid (base ≤ W27.heap.size) := hide (Nat.le_trans (unhide HL5) hg.size)
            have HNS := hide hm
            refine hK.out _ _ (unhide HC27).bx (fun hS => ?_)
            clear hK KK HK hm hr hg HC5 HB5 HD5 HL5
            refine wpAnyH_ready (rs := [1, 5]) (by kernel_rfl) (by simp) ?_
            refine AllReadyH.cons rfl (fun KK hK => ?_) ?_
            · have q2 := (unhide HB27).c 2 rfl
              go_simp
              refine hK.out _ _ (unhide HC27).bx (fun hS => ?_)
              clear hK KK q2
              refine wpAnyH_ready (rs := [5]) (by kernel_rfl) (by simp) ?_
              refine AllReadyH.cons rfl (fun KK hK => ?_) AllReadyH.nil
              go_simp
              have HK := hide (rtype (unhide HC27).rd)
              refine (unhide HK).mono ?_
              rintro e W29 (⟨t, kt, v, hm, rfl, ⟨rfl, ht⟩, hr, hg⟩ | ⟨a, er, hm, rfl, hg⟩)
              rotate_left
              · have hfd : fdP l kq = .error (a, er) := by rw [fdP, unhide HNS]; show bndP (byP l ks) _ = _; rw [hm]; rfl
                exact ⟨rfl, Or.inr ⟨_, _, by rw [clP, unhide HNM]; show bndP (byP l k1) _ = _; rw [unhide HBY]; show bndP (coP 32 l k2) _ = _; rw [unhide HCO]; show bndP (repP fdP m l k3) _ = _; rw [← unhide HRP, rep_no _ hfd]; rfl, rfl, grown_trans (unhide HC27).gr hg⟩⟩
              have HC29 := hide ((unhide HC27).step hr hg)
              have HB29 := hide (box_step (unhide HB27) hg (by have := (unhide HLO).1; omega))
              have HD29 := hide ((unhide HD27).box hg (by have := (unhide HLO); omega))
              have HL29 : Hid (base ≤ W29.heap.size) := hide (Nat.le_trans (unhide HL27) hg.size)
              have HTL := hide ht
              have HFD : Hid (fdP l kq = .ok ((s, t), kt)) := hide (by rw [fdP, unhide HNS]; show bndP (byP l ks) _ = _; rw [hm]; rfl)
              refine hK.out _ _ (unhide HC29).bx (fun hS => ?_)
              clear hK KK HK hm hr hg HC27 HB27 HD27 HL27 ht
              refine wpAnyH_take (i := 6) (v := .agg #[.string ⟨s.toArray⟩, .int .u8 (t : Int)]) rfl (by kernel_rfl) (by kernel_rfl) (by kernel_rfl) (fun _ _ _ h => h) (Or.inl ⟨by rfl, fun W _ => by go_simp⟩) hS ?_
              go_simp
              refine wpAnyH_ready (rs := [7]) (by kernel_rfl) (by simp) ?_
              refine AllReadyH.cons rfl (fun KK hK => ?_) AllReadyH.nil
              go_simp
              have HA30 : Hid (C0 w (W29.alloc (.cells #[.string ⟨s.toArray⟩, .int .u8 (t : Int)] 83)) p g cap l kt 80 #[.string ⟨#[]⟩, .int .i64 0, .slice none 0 0]) := hide ((unhide HC29).below ((Below.refl _ _).alloc (Nat.le_refl _) _))
              have HBA30 := hide ((unhide HB29).below ((Below.refl W29.heap.size W29).alloc (Nat.le_refl _) (.cells #[.string ⟨s.toArray⟩, .int .u8 (t : Int)] 83)))
              refine hK.out _ _ (unhide HA30).bx (fun hS => ?_)
              clear hK KK
              refine wpAnyH_ready (rs := [8]) (by kernel_rfl) (by simp) ?_
              refine AllReadyH.cons rfl (fun KK hK => ?_) AllReadyH.nil
              refine step_append_lies _ (by rfl) _ _ 78 (by rfl) base 83 i0 _ 2 24 Tryz.underlying78 hi0 hz0 hz1 hz2 rfl (by omega) (.slice va M.length vc) M.length (vals flN M) (by rfl) (rowBelow (unhide HD29).own ((Below.refl _ _).alloc (Nat.le_refl _) _)) ⟨W29.heap.size, 0, none⟩ 1 1 (flN.cells ⟨⟨s.toArray⟩, t⟩) (by rfl) (by rfl) (World.news_of_block (cs := #[.string ⟨s.toArray⟩, .int .u8 (t : Int)]) (t := 83) (fr := (0, 0)) (heap_alloc_new W29 _)) (fun u hu => by simp [flN] at hu; rcases hu with rfl | rfl <;> rfl) (by omega) (by have := unhide HML; have := unhide HM32; unfold maxLen; omega) (by have := unhide HML; have := unhide HM32; omega) (by rw [World.size_alloc]; have := unhide HL29; omega) (W29.heap.size + 1) (by simp) ?_
              intro g3 cap3 W31 hown hgrow hat hlt3
              have al : Below W29.heap.size W29 (W29.alloc (.cells #[.string ⟨s.toArray⟩, .int .u8 (t : Int)] 83)) := (Below.refl _ _).alloc (Nat.le_refl _) _
              have HD31 : Hid (Bld flN W31 base (.slice (some ⟨g3, 0, none⟩) (M.length + 1) cap3) (M ++ [⟨⟨s.toArray⟩, t⟩])) := hide ((unhide HD29).snoc (y := ⟨⟨s.toArray⟩, t⟩) ⟨Nat.le_trans (nm_small (unhide HNS)) (by omega), unhide HTL⟩ trivial (fun _ _ => trivial) hown hgrow hat)
              have HC31 := hide (((unhide HC29).below al).row hgrow (fun x e => by have := unhide HVL x e; have := unhide HLO; omega) hgl)
              have HB31 := hide (((unhide HB29).below al).grown hgrow (fun e => by have := unhide HVL gc e; have := unhide HLO; omega))
              have HL31 : Hid (base ≤ W31.heap.size) := hide (by have := hgrow.size; rw [World.size_alloc] at this; have := unhide HL29; omega)
              refine hK.out _ _ (unhide HC31).bx (fun hS => ?_)
              clear hK KK hown hgrow hat hlt3 al HC29 HB29 HD29 HL29
              refine wpAnyH_take (i := 9) (v := .pointer (some ⟨gc, 2, none⟩)) rfl (by kernel_rfl) (by kernel_rfl) (by kernel_rfl) (fun _ _ _ h => h) (Or.inl ⟨by rfl, fun W _ => by go_simp⟩) hS ?_
              go_simp
              refine wpAnyH_ready (rs := [10]) (by kernel_rfl) (by simp) ?_
              refine AllReadyH.cons rfl (fun KK hK => ?_) AllReadyH.nil
              have q2 := (unhide HB31).c 2 rfl
              have f2 := (unhide HB31).f 2
              go_simp
              have hgs := grownBy_set W31 gc 2 (.slice (some ⟨g3, 0, none⟩) (M.length + 1) cap3)
              have HCn := hide ((unhide HC31).own hgs (unhide HLO).1 (by have := (unhide HLO).1; omega))
              have HBn : Hid (Bx (W31.setCell ⟨gc, 2, none⟩ (.slice (some ⟨g3, 0, none⟩) (M.length + 1) cap3)) gc 80 #[.string ⟨nm.toArray⟩, .int .i64 (parI n), .slice (some ⟨g3, 0, none⟩) (M.length + 1) cap3]) := hide ((unhide HB31).set 2 _ rfl)
              have HDn := hide ((unhide HD31).box hgs (unhide HLO).2)
              have HLn : Hid (base ≤ (W31.setCell ⟨gc, 2, none⟩ (.slice (some ⟨g3, 0, none⟩) (M.length + 1) cap3)).heap.size) := hide (Nat.le_trans (unhide HL31) hgs.size)
              have HMn : Hid ((M ++ [(⟨⟨s.toArray⟩, t⟩ : Fl)]).length = q + 1) := hide (by rw [List.length_append, unhide HML]; rfl)
              have HRn : Hid ((bndP (repP fdP (m - (q + 1)) l kt) fun xs j => (.ok ((M ++ [(⟨⟨s.toArray⟩, t⟩ : Fl)]).map flC ++ xs, j) : PR (List FlC))) = repP fdP m l k3) := hide (by
                rw [← unhide HRP, rep_ok (M.map flC) (unhide HFD), show m - (q + 1) = r by have := unhide HRE; omega, List.map_append, List.map_cons, List.map_nil, fl_of])
              clear q2 f2 hgs HC31 HB31 HD31 HL31 HRP HML
              refine hK.out _ _ (unhide HCn).bx (fun hS => ?_)
              clear hK KK hS
              refine wpAnyH_done (by kernel_rfl) ?_ _
              go_wp2
              go_roundw
              case rel => exact ⟨q + 1, _, kt, _, by omega, by go_num, HCn, HBn, HDn, HLn, HMn, HRn⟩
              case measure => simp [intOf]; omega
            · refine AllReadyH.cons rfl (fun KK hK => ?_) AllReadyH.nil
              go_simp
              have HK := hide (rtype (unhide HC27).rd)
              refine (unhide HK).mono ?_
              rintro e W32 (⟨t, kt, v, hm, rfl, ⟨rfl, ht⟩, hr, hg⟩ | ⟨a, er, hm, rfl, hg⟩)
              rotate_left
              · have hfd : fdP l kq = .error (a, er) := by rw [fdP, unhide HNS]; show bndP (byP l ks) _ = _; rw [hm]; rfl
                exact ⟨rfl, Or.inr ⟨_, _, by rw [clP, unhide HNM]; show bndP (byP l k1) _ = _; rw [unhide HBY]; show bndP (coP 32 l k2) _ = _; rw [unhide HCO]; show bndP (repP fdP m l k3) _ = _; rw [← unhide HRP, rep_no _ hfd]; rfl, rfl, grown_trans (unhide HC27).gr hg⟩⟩
              have HC32 := hide ((unhide HC27).step hr hg)
              have HB32 := hide (box_step (unhide HB27) hg (by have := (unhide HLO).1; omega))
              have HD32 := hide ((unhide HD27).box hg (by have := (unhide HLO); omega))
              have HL32 : Hid (base ≤ W32.heap.size) := hide (Nat.le_trans (unhide HL27) hg.size)
              have HTL := hide ht
              have HFD : Hid (fdP l kq = .ok ((s, t), kt)) := hide (by rw [fdP, unhide HNS]; show bndP (byP l ks) _ = _; rw [hm]; rfl)
              refine hK.out _ _ (unhide HC32).bx (fun hS => ?_)
              clear hK KK HK hm hr hg HC27 HB27 HD27 HL27 ht
              refine wpAnyH_take (i := 6) (v := .agg #[.string ⟨s.toArray⟩, .int .u8 (t : Int)]) rfl (by kernel_rfl) (by kernel_rfl) (by kernel_rfl) (fun _ _ _ h => h) (Or.inl ⟨by rfl, fun W _ => by go_simp⟩) hS ?_
              go_simp
              refine wpAnyH_ready (rs := [1, 7]) (by kernel_rfl) (by simp) ?_
              refine AllReadyH.cons rfl (fun KK hK => ?_) ?_
              · have q2 := (unhide HB32).c 2 rfl
                go_simp
                refine hK.out _ _ (unhide HC32).bx (fun hS => ?_)
                clear hK KK q2
                refine wpAnyH_ready (rs := [7]) (by kernel_rfl) (by simp) ?_
                refine AllReadyH.cons rfl (fun KK hK => ?_) AllReadyH.nil
                go_simp
                have HA34 : Hid (C0 w (W32.alloc (.cells #[.string ⟨s.toArray⟩, .int .u8 (t : Int)] 83)) p g cap l kt 80 #[.string ⟨#[]⟩, .int .i64 0, .slice none 0 0]) := hide ((unhide HC32).below ((Below.refl _ _).alloc (Nat.le_refl _) _))
                have HBA34 := hide ((unhide HB32).below ((Below.refl W32.heap.size W32).alloc (Nat.le_refl _) (.cells #[.string ⟨s.toArray⟩, .int .u8 (t : Int)] 83)))
                refine hK.out _ _ (unhide HA34).bx (fun hS => ?_)
                clear hK KK
                refine wpAnyH_ready (rs := [8]) (by kernel_rfl) (by simp) ?_
                refine AllReadyH.cons rfl (fun KK hK => ?_) AllReadyH.nil
                refine step_append_lies _ (by rfl) _ _ 78 (by rfl) base 83 i0 _ 2 24 Tryz.underlying78 hi0 hz0 hz1 hz2 rfl (by omega) (.slice va M.length vc) M.length (vals flN M) (by rfl) (rowBelow (unhide HD32).own ((Below.refl _ _).alloc (Nat.le_refl _) _)) ⟨W32.heap.size, 0, none⟩ 1 1 (flN.cells ⟨⟨s.toArray⟩, t⟩) (by rfl) (by rfl) (World.news_of_block (cs := #[.string ⟨s.toArray⟩, .int .u8 (t : Int)]) (t := 83) (fr := (0, 0)) (heap_alloc_new W32 _)) (fun u hu => by simp [flN] at hu; rcases hu with rfl | rfl <;> rfl) (by omega) (by have := unhide HML; have := unhide HM32; unfold maxLen; omega) (by have := unhide HML; have := unhide HM32; omega) (by rw [World.size_alloc]; have := unhide HL32; omega) (W32.heap.size + 1) (by simp) ?_
                intro g3 cap3 W35 hown hgrow hat hlt3
                have al : Below W32.heap.size W32 (W32.alloc (.cells #[.string ⟨s.toArray⟩, .int .u8 (t : Int)] 83)) := (Below.refl _ _).alloc (Nat.le_refl _) _
                have HD35 : Hid (Bld flN W35 base (.slice (some ⟨g3, 0, none⟩) (M.length + 1) cap3) (M ++ [⟨⟨s.toArray⟩, t⟩])) := hide ((unhide HD32).snoc (y := ⟨⟨s.toArray⟩, t⟩) ⟨Nat.le_trans (nm_small (unhide HNS)) (by omega), unhide HTL⟩ trivial (fun _ _ => trivial) hown hgrow hat)
                have HC35 := hide (((unhide HC32).below al).row hgrow (fun x e => by have := unhide HVL x e; have := unhide HLO; omega) hgl)
                have HB35 := hide (((unhide HB32).below al).grown hgrow (fun e => by have := unhide HVL gc e; have := unhide HLO; omega))
                have HL35 : Hid (base ≤ W35.heap.size) := hide (by have := hgrow.size; rw [World.size_alloc] at this; have := unhide HL32; omega)
                refine hK.out _ _ (unhide HC35).bx (fun hS => ?_)
                clear hK KK hown hgrow hat hlt3 al HC32 HB32 HD32 HL32
                refine wpAnyH_take (i := 9) (v := .pointer (some ⟨gc, 2, none⟩)) rfl (by kernel_rfl) (by kernel_rfl) (by kernel_rfl) (fun _ _ _ h => h) (Or.inl ⟨by rfl, fun W _ => by go_simp⟩) hS ?_
                go_simp
                refine wpAnyH_ready (rs := [10]) (by kernel_rfl) (by simp) ?_
                refine AllReadyH.cons rfl (fun KK hK => ?_) AllReadyH.nil
                have q2 := (unhide HB35).c 2 rfl
                have f2 := (unhide HB35).f 2
                go_simp
                have hgs := grownBy_set W35 gc 2 (.slice (some ⟨g3, 0, none⟩) (M.length + 1) cap3)
                have HCn := hide ((unhide HC35).own hgs (unhide HLO).1 (by have := (unhide HLO).1; omega))
                have HBn : Hid (Bx (W35.setCell ⟨gc, 2, none⟩ (.slice (some ⟨g3, 0, none⟩) (M.length + 1) cap3)) gc 80 #[.string ⟨nm.toArray⟩, .int .i64 (parI n), .slice (some ⟨g3, 0, none⟩) (M.length + 1) cap3]) := hide ((unhide HB35).set 2 _ rfl)
                have HDn := hide ((unhide HD35).box hgs (unhide HLO).2)
                have HLn : Hid (base ≤ (W35.setCell ⟨gc, 2, none⟩ (.slice (some ⟨g3, 0, none⟩) (M.length + 1) cap3)).heap.size) := hide (Nat.le_trans (unhide HL35) hgs.size)
                have HMn : Hid ((M ++ [(⟨⟨s.toArray⟩, t⟩ : Fl)]).length = q + 1) := hide (by rw [List.length_append, unhide HML]; rfl)
                have HRn : Hid ((bndP (repP fdP (m - (q + 1)) l kt) fun xs j => (.ok ((M ++ [(⟨⟨s.toArray⟩, t⟩ : Fl)]).map flC ++ xs, j) : PR (List FlC))) = repP fdP m l k3) := hide (by
                  rw [← unhide HRP, rep_ok (M.map flC) (unhide HFD), show m - (q + 1) = r by have := unhide HRE; omega, List.map_append, List.map_cons, List.map_nil, fl_of])
                clear q2 f2 hgs HC35 HB35 HD35 HL35 HRP HML
                refine hK.out _ _ (unhide HCn).bx (fun hS => ?_)
                clear hK KK hS
                refine wpAnyH_done (by kernel_rfl) ?_ _
                go_wp2
                go_roundw
                case rel => exact ⟨q + 1, _, kt, _, by omega, by go_num, HCn, HBn, HDn, HLn, HMn, HRn⟩
                case measure => simp [intOf]; omega
              · refine AllReadyH.cons rfl (fun KK hK => ?_) AllReadyH.nil
                go_simp
                have HA36 : Hid (C0 w (W32.alloc (.cells #[.string ⟨s.toArray⟩, .int .u8 (t : Int)] 83)) p g cap l kt 80 #[.string ⟨#[]⟩, .int .i64 0, .slice none 0 0]) := hide ((unhide HC32).below ((Below.refl _ _).alloc (Nat.le_refl _) _))
                have HBA36 := hide ((unhide HB32).below ((Below.refl W32.heap.size W32).alloc (Nat.le_refl _) (.cells #[.string ⟨s.toArray⟩, .int .u8 (t : Int)] 83)))
                refine hK.out _ _ (unhide HA36).bx (fun hS => ?_)
                clear hK KK
                refine wpAnyH_ready (rs := [1]) (by kernel_rfl) (by simp) ?_
                refine AllReadyH.cons rfl (fun KK hK => ?_) AllReadyH.nil
                have q2 := (unhide HBA36).c 2 rfl
                go_simp
                refine hK.out _ _ (unhide HA36).bx (fun hS => ?_)
                clear hK KK q2
                refine wpAnyH_ready (rs := [8]) (by kernel_rfl) (by simp) ?_
                refine AllReadyH.cons rfl (fun KK hK => ?_) AllReadyH.nil
                refine step_append_lies _ (by rfl) _ _ 78 (by rfl) base 83 i0 _ 2 24 Tryz.underlying78 hi0 hz0 hz1 hz2 rfl (by omega) (.slice va M.length vc) M.length (vals flN M) (by rfl) (rowBelow (unhide HD32).own ((Below.refl _ _).alloc (Nat.le_refl _) _)) ⟨W32.heap.size, 0, none⟩ 1 1 (flN.cells ⟨⟨s.toArray⟩, t⟩) (by rfl) (by rfl) (World.news_of_block (cs := #[.string ⟨s.toArray⟩, .int .u8 (t : Int)]) (t := 83) (fr := (0, 0)) (heap_alloc_new W32 _)) (fun u hu => by simp [flN] at hu; rcases hu with rfl | rfl <;> rfl) (by omega) (by have := unhide HML; have := unhide HM32; unfold maxLen; omega) (by have := unhide HML; have := unhide HM32; omega) (by rw [World.size_alloc]; have := unhide HL32; omega) (W32.heap.size + 1) (by simp) ?_
                intro g3 cap3 W38 hown hgrow hat hlt3
                have al : Below W32.heap.size W32 (W32.alloc (.cells #[.string ⟨s.toArray⟩, .int .u8 (t : Int)] 83)) := (Below.refl _ _).alloc (Nat.le_refl _) _
                have HD38 : Hid (Bld flN W38 base (.slice (some ⟨g3, 0, none⟩) (M.length + 1) cap3) (M ++ [⟨⟨s.toArray⟩, t⟩])) := hide ((unhide HD32).snoc (y := ⟨⟨s.toArray⟩, t⟩) ⟨Nat.le_trans (nm_small (unhide HNS)) (by omega), unhide HTL⟩ trivial (fun _ _ => trivial) hown hgrow hat)
                have HC38 := hide (((unhide HC32).below al).row hgrow (fun x e => by have := unhide HVL x e; have := unhide HLO; omega) hgl)
                have HB38 := hide (((unhide HB32).below al).grown hgrow (fun e => by have := unhide HVL gc e; have := unhide HLO; omega))
                have HL38 : Hid (base ≤ W38.heap.size) := hide (by have := hgrow.size; rw [World.size_alloc] at this; have := unhide HL32; omega)
                refine hK.out _ _ (unhide HC38).bx (fun hS => ?_)
                clear hK KK hown hgrow hat hlt3 al HC32 HB32 HD32 HL32
                refine wpAnyH_take (i := 9) (v := .pointer (some ⟨gc, 2, none⟩)) rfl (by kernel_rfl) (by kernel_rfl) (by kernel_rfl) (fun _ _ _ h => h) (Or.inl ⟨by rfl, fun W _ => by go_simp⟩) hS ?_
                go_simp
                refine wpAnyH_ready (rs := [10]) (by kernel_rfl) (by simp) ?_
                refine AllReadyH.cons rfl (fun KK hK => ?_) AllReadyH.nil
                have q2 := (unhide HB38).c 2 rfl
                have f2 := (unhide HB38).f 2
                go_simp
                have hgs := grownBy_set W38 gc 2 (.slice (some ⟨g3, 0, none⟩) (M.length + 1) cap3)
                have HCn := hide ((unhide HC38).own hgs (unhide HLO).1 (by have := (unhide HLO).1; omega))
                have HBn : Hid (Bx (W38.setCell ⟨gc, 2, none⟩ (.slice (some ⟨g3, 0, none⟩) (M.length + 1) cap3)) gc 80 #[.string ⟨nm.toArray⟩, .int .i64 (parI n), .slice (some ⟨g3, 0, none⟩) (M.length + 1) cap3]) := hide ((unhide HB38).set 2 _ rfl)
                have HDn := hide ((unhide HD38).box hgs (unhide HLO).2)
                have HLn : Hid (base ≤ (W38.setCell ⟨gc, 2, none⟩ (.slice (some ⟨g3, 0, none⟩) (M.length + 1) cap3)).heap.size) := hide (Nat.le_trans (unhide HL38) hgs.size)
                have HMn : Hid ((M ++ [(⟨⟨s.toArray⟩, t⟩ : Fl)]).length = q + 1) := hide (by rw [List.length_append, unhide HML]; rfl)
                have HRn : Hid ((bndP (repP fdP (m - (q + 1)) l kt) fun xs j => (.ok ((M ++ [(⟨⟨s.toArray⟩, t⟩ : Fl)]).map flC ++ xs, j) : PR (List FlC))) = repP fdP m l k3) := hide (by
                  rw [← unhide HRP, rep_ok (M.map flC) (unhide HFD), show m - (q + 1) = r by have := unhide HRE; omega, List.map_append, List.map_cons, List.map_nil, fl_of])
                clear q2 f2 hgs HC38 HB38 HD38 HL38 HRP HML
                refine hK.out _ _ (unhide HCn).bx (fun hS => ?_)
                clear hK KK hS
                refine wpAnyH_done (by kernel_rfl) ?_ _
                go_wp2
                go_roundw
                case rel => exact ⟨q + 1, _, kt, _, by omega, by go_num, HCn, HBn, HDn, HLn, HMn, HRn⟩
                case measure => simp [intOf]; omega
        · have i1 : ¬ ((q : Nat) : Int) < ((m : Nat) : Int) := by omega
          have hqm : q = m := by omega
          obtain ⟨fa, fcc, hv, HROW, HALL, hnil, hcap⟩ := (unhide HD4).outC
          subst hv
          have HRR : Hid (repP fdP m l k3 = .ok (M.map flC, kq)) := hide (by rw [← unhide HRP, hqm, Nat.sub_self]; exact rep_end _)
          have HCLP : Hid (clP l k = .ok ((nm, parI n, M.map flC), kq)) := hide (by rw [clP, unhide HNM]; show bndP (byP l k1) _ = _; rw [unhide HBY]; show bndP (coP 32 l k2) _ = _; rw [unhide HCO]; show bndP (repP fdP m l k3) _ = _; rw [unhide HRR]; rfl)
          have c0 := (unhide HB4).c 0 rfl
          have c1 := (unhide HB4).c 1 rfl
          have c2 := (unhide HB4).c 2 rfl
          have HZ : Hid (Bx (wr.setRow (w.heap.size + 1) #[.string ⟨nm.toArray⟩, .int .i64 (parI n), .slice fa M.length fcc]) (w.heap.size + 1) 80 #[.string ⟨nm.toArray⟩, .int .i64 (parI n), .slice fa M.length fcc]) := hide (setRow_heap _ _ _ _ _ _ (unhide HC4).out)
          have hgw := grown_row (W := wr) (w.heap.size + 1) #[.string ⟨nm.toArray⟩, .int .i64 (parI n), .slice fa M.length fcc]
          have HRW : Hid (RowAt flN (wr.setRow (w.heap.size + 1) #[.string ⟨nm.toArray⟩, .int .i64 (parI n), .slice fa M.length fcc]) fa M ∧ RowAll flN (fun b => w.heap.size ≤ b) fa M) := hide ⟨HROW.far hgw (RowAll.mono (fun b hb => by have := unhide HLO; omega) HALL), RowAll.mono (fun b hb => by have := unhide HLO; omega) HALL⟩
          have HRD := hide ((unhide HC4).rd.kept hgw (fun e => by injection e with e; omega) (fun e => by injection e with e; omega))
          have HGG := hide (grownBy_more (unhide HC4).gr hgw (fun x e => Or.inl (by injection e with e; omega)))
          have HOK : Hid (COk ⟨⟨nm.toArray⟩, parI n, fa, fcc, M⟩) := hide ⟨hnil, hcap, by have := unhide HML; have := unhide HM32; show M.length * 24 ≤ _; omega, Nat.le_trans (nm_small (unhide HNM)) (by omega), parI_bd (unhide HNL)⟩
          have HO := hide (unhide HC4).out
          clear hgw HRP HRR HROW HALL HB4 HD4 hnil hcap
          go_wp2_with (refine wpList_store_row rfl 80 _ _ rfl (w.heap.size + 1) #[.string ⟨nm.toArray⟩, .int .i64 (parI n), .slice fa M.length fcc] rfl rfl 80 #[.string ⟨#[]⟩, .int .i64 0, .slice none 0 0] (unhide HO) (by kernel_rfl) rfl (by simp [Value.oneCell']) ?_)
          refine bodyPost_ret (results_bx rfl _ _ (w.heap.size + 1) _ rfl (run_loadVar_row _ _ 80 80 _ (0, 0) _ (unhide HZ) Tryz.underlying80 rfl (by kernel_rfl))) rfl (Or.inl ⟨_, kq, _, unhide HCLP, rfl, ⟨⟨⟨nm.toArray⟩, parI n, fa, fcc, M⟩, rfl, ?_, ⟨unhide HOK, (unhide HRW).1⟩, (unhide HRW).2⟩, unhide HRD, unhide HGG⟩)
          show ((⟨nm.toArray⟩ : ByteArray).toList, parI n, M.map flC) = _
          rw [ByteArray.toList_eq]
end Go.Proofs.YtibgfdjopikafaaGreatDoor

/-
  The module's reader: a function. Conditions: none but that the reader is one.
-/
namespace Go.Proofs.YtibgfdjopikafaaGreatDoor
open Go.RowKit
set_option maxRecDepth 20000
set_option linter.unusedVariables false
set_option linter.unusedSimpArgs false

def tyN : Nd Nat where
  t := 40
  s := 1
  cells := fun t => [.int .u8 (t : Int)]
  ok := fun _ t => t < 256
  all := fun _ _ => True
  pos := by decide
  len := fun _ => rfl
  below := fun h _ => h
  far := fun h _ _ => h
  lt := fun _ => trivial
  mono := fun _ _ => trivial
theorem pat_of_row {W : World} {ao : Option Addr} {L : List Nat} (h : RowAt tyN W ao L) : PAt W ao L := fun i t ht => by
  obtain ⟨b, off, e, h1, h2⟩ := h i t ht
  have h1 : W.rangeAt b (off + i * 1) [.int .u8 (t : Int)] := h1
  rw [Nat.mul_one] at h1
  exact ⟨b, off, e, h1 0 _ rfl⟩
theorem bts_of_row {W : World} {ao : Option Addr} {L : List Nat} (h : RowAt tyN W ao L) : ∀ t ∈ L, t < 256 := fun t ht => by
  obtain ⟨i, hi, e⟩ := List.mem_iff_getElem.1 ht
  obtain ⟨_, _, _, _, h2⟩ := h i t (by rw [← e]; exact List.getElem?_eq_getElem hi)
  exact h2
theorem infoTyD : (Tryz.prog.info? 40).map (fun i => (i.zero, i.size, i.bytes)) = some (some (.int .u8 0), 1, 1) := by kernel_rfl
theorem co_le {most : Nat} {l : List UInt8} {k m k3 : Nat} (hm : coP most l k = .ok (m, k3)) : m ≤ most := by
  unfold coP at hm
  cases hy : byP l k with
  | error e => rw [hy] at hm; cases hm
  | ok y =>
    rw [hy] at hm
    have hm : (if most < y.1 then .error (k, 4) else .ok (y.1, y.2) : PR Nat) = .ok (m, k3) := hm
    split at hm
    · cases hm
    · injection hm with hm; injection hm with hm _; omega
theorem lo_len {l : List UInt8} {k k' : Nat} {x : List UInt8} (h : loP l k = .ok (x, k')) : x.length < 65536 := by
  unfold loP at h
  split at h
  · cases h
  · unfold biP at h
    split at h
    · cases h
    · injection h with h
      injection h with h _
      have := woN_lt l k
      rw [← h, List.length_take]
      omega
/-- What the long answers, as it lies. -/
theorem own_out {W : World} {base : Nat} {v : Value} {x : List UInt8} (h : OwnB W base v x) : ∃ ca cc, v = .slice ca x.length cc ∧ BAt W ca x ∧ BlkOf (fun b => base ≤ b) ca x.length ∧ (ca = none → x = [] ∧ cc = 0) := by
  rcases h.shape with ⟨e1, e2⟩ | ⟨b, c, e1, h1, h2, h3, h4, h5⟩
  · subst e2
    exact ⟨none, 0, e1, BAt.nil _ _, (fun _ _ e => by cases e), fun _ => ⟨rfl, rfl⟩⟩
  · have hlt := (World.ownsRow.lt h b (by rw [e1]; rfl)).1
    refine ⟨_, c, e1, h5, fun b' off e _ => ?_, fun e => by cases e⟩
    injection e with e
    injection e with e
    omega
set_option maxHeartbeats 16000000 in
theorem rfunction {w : World} {p g cap : Nat} {l : List UInt8} {k : Nat} (h : IsReader w p g cap l k) : Calls Tryz.prog 106 #[.agg #[.pointer (some ⟨p, 0, none⟩), .int .i64 (l.length : Int)]] w (RP w p g cap l (fnP l k) (fun x v W => ∃ y : Fn, v = .agg #[.string y.nm, .slice y.sg.po y.sg.ps.length y.sg.pc, .int .u8 (y.sg.rt : Int), .int .i64 y.lo, .slice y.ca y.cd.length y.cc] ∧ fnC y = x ∧ fnN.ok W y ∧ fnN.all (fun b => w.heap.size ≤ b) y)) := by
  obtain ⟨i0, hi0, hz0, hz1, hz2⟩ := info_parts infoTyD
  have al1 := (Below.refl w.heap.size w).alloc (Nat.le_refl _) (.cells #[.pointer (some ⟨p, 0, none⟩), .int .i64 (l.length : Int)] 112)
  have al := al1.alloc (by simp) (.cells #[.string ⟨#[]⟩, .slice none 0 0, .int .u8 0, .int .i64 0, .slice none 0 0] 44)
  have n1 := heap_alloc_new w (.cells #[.pointer (some ⟨p, 0, none⟩), .int .i64 (l.length : Int)] 112)
  have n2 := heap_alloc_new (w.alloc (.cells #[.pointer (some ⟨p, 0, none⟩), .int .i64 (l.length : Int)] 112)) (.cells #[.string ⟨#[]⟩, .slice none 0 0, .int .u8 0, .int .i64 0, .slice none 0 0] 44)
  rw [World.size_alloc] at n2
  have HX0 : Hid (Bx ((w.alloc (.cells #[.pointer (some ⟨p, 0, none⟩), .int .i64 (l.length : Int)] 112)).alloc (.cells #[.string ⟨#[]⟩, .slice none 0 0, .int .u8 0, .int .i64 0, .slice none 0 0] 44)) w.heap.size 112 #[.pointer (some ⟨p, 0, none⟩), .int .i64 (l.length : Int)]) := hide ((((Below.refl _ _).alloc (Nat.le_refl _) _).block w.heap.size (by simp)).trans n1)
  have HC : Hid (C0 w ((w.alloc (.cells #[.pointer (some ⟨p, 0, none⟩), .int .i64 (l.length : Int)] 112)).alloc (.cells #[.string ⟨#[]⟩, .slice none 0 0, .int .u8 0, .int .i64 0, .slice none 0 0] 44)) p g cap l k 44 #[.string ⟨#[]⟩, .slice none 0 0, .int .u8 0, .int .i64 0, .slice none 0 0]) := hide ⟨h.below al, grown_of_below al _, unhide HX0, n2, h.pl, by simp⟩
  have hpl : p < w.heap.size := h.pl
  have hgl : g < w.heap.size := h.gl
  have mixed := mixedT
  clear al1 al n1 n2 HX0 h
  go_enter Tryz.func106, Tryz.ntmps106
  go_upto_region 1 with fail
  generalize ((w.alloc (.cells #[.pointer (some ⟨p, 0, none⟩), .int .i64 (l.length : Int)] 112)).alloc (.cells #[.string ⟨#[]⟩, .slice none 0 0, .int .u8 0, .int .i64 0, .slice none 0 0] 44)) = W1 at HC ⊢
  have k0 := (unhide HC).bx.c 0 rfl
  have k1 := (unhide HC).bx.c 1 rfl
  have HK := hide (rname (unhide HC).rd)
  go_wp2_with fail
  refine (unhide HK).mono ?_
  rintro e W2 (⟨nm, k1', v, hm, rfl, rfl, hr, hg⟩ | ⟨a, er, hm, rfl, hg⟩)
  rotate_left
  · exact ⟨rfl, Or.inr ⟨_, _, by rw [fnP, hm]; rfl, rfl, grown_trans (unhide HC).gr hg⟩⟩
  have HNM := hide hm
  have HC2 := hide ((unhide HC).step hr hg)
  clear hm hr hg HK k0 k1 HC
  have al : Below W2.heap.size W2 (W2.alloc (.cells #[.string ⟨nm.toArray⟩, .slice none 0 0, .int .u8 0, .int .i64 0, .slice none 0 0] 44)) := (Below.refl _ _).alloc (Nat.le_refl _) _
  have HB1 : Hid (Bx (W2.alloc (.cells #[.string ⟨nm.toArray⟩, .slice none 0 0, .int .u8 0, .int .i64 0, .slice none 0 0] 44)) W2.heap.size 44 #[.string ⟨nm.toArray⟩, .slice none 0 0, .int .u8 0, .int .i64 0, .slice none 0 0]) := hide (heap_alloc_new W2 _)
  have HC1 := hide ((unhide HC2).below al)
  have HGC : Hid (w.heap.size + 2 ≤ W2.heap.size ∧ W2.heap.size < (W2.alloc (.cells #[.string ⟨nm.toArray⟩, .slice none 0 0, .int .u8 0, .int .i64 0, .slice none 0 0] 44)).heap.size) := hide ⟨(unhide HC2).sz, by simp⟩
  clear al HC2
  go_upto_region 2 with fail
  generalize W2.alloc (.cells #[.string ⟨nm.toArray⟩, .slice none 0 0, .int .u8 0, .int .i64 0, .slice none 0 0] 44) = Wx at HB1 HC1 HGC ⊢
  generalize W2.heap.size = gc at HB1 HGC ⊢
  have k0 := (unhide HC1).bx.c 0 rfl
  have k1 := (unhide HC1).bx.c 1 rfl
  have HK := hide (rcount (unhide HC1).rd 8)
  go_wp2_with fail
  refine (unhide HK).mono ?_
  rintro e W3 (⟨m, k3, v, hm, rfl, ⟨rfl, hm8⟩, hr, hg⟩ | ⟨a, er, hm, rfl, hg⟩)
  rotate_left
  · exact ⟨rfl, Or.inr ⟨_, _, by rw [fnP, unhide HNM]; show bndP (coP 8 l k1') _ = _; rw [hm]; rfl, rfl, grown_trans (unhide HC1).gr hg⟩⟩
  have HC3 := hide ((unhide HC1).step hr hg)
  have HB3 := hide (box_step (unhide HB1) hg (by have := (unhide HGC).1; omega))
  have HCO := hide hm
  have hb3 : w.heap.size + 2 ≤ gc ∧ gc < W3.heap.size := ⟨(unhide HGC).1, Nat.lt_of_lt_of_le (unhide HGC).2 hg.size⟩
  obtain ⟨base, HBS⟩ : ∃ base, base = W3.heap.size := ⟨_, rfl⟩
  have HLO : Hid (w.heap.size + 2 ≤ gc ∧ gc < base) := hide ⟨hb3.1, by omega⟩
  have HBL : Hid (base ≤ W3.heap.size) := hide (by omega)
  have HM32 : Hid (m ≤ 8) := hide (co_le hm)
  clear hm hr hg HK HC1 HB1 HGC k0 k1 hb3 HBS
  go_wp2_with fail
  go_loopw [9] (fun i wr => ∃ (q : Nat) (M : List Nat) (kq : Nat) (v : Value), q ≤ m ∧ i = .int .i64 (q : Int) ∧ Hid (C0 w wr p g cap l kq 44 #[.string ⟨#[]⟩, .slice none 0 0, .int .u8 0, .int .i64 0, .slice none 0 0]) ∧ Hid (Bx wr gc 44 #[.string ⟨nm.toArray⟩, v, .int .u8 0, .int .i64 0, .slice none 0 0]) ∧ Hid (Bld tyN wr base v M) ∧ Hid (base ≤ wr.heap.size) ∧ Hid (M.length = q) ∧ Hid ((bndP (repP byP (m - q) l kq) fun xs j => (.ok (M ++ xs, j) : PR (List Nat))) = repP byP m l k3)) (fun i _ => m - (intOf i).toNat)
  case atStart => exact ⟨0, [], k3, .slice none 0 0, by omega, rfl, HC3, HB3, hide (Bld.nil _ _ _), HBL, hide rfl, hide (rep_start _)⟩
  case round =>
    clear HC3 HB3 HBL
    obtain ⟨q, M, kq, v, hq, rfl, HC4, HB4, HD4, HBL, HML, HRP⟩ := hrel
    by_cases hlt : q < m
    · have i1 : ((q : Nat) : Int) < ((m : Nat) : Int) := by omega
      obtain ⟨r, HRE⟩ : ∃ r, Hid (m - q = r + 1) := ⟨m - q - 1, hide (by omega)⟩
      obtain ⟨va, vc, rfl⟩ := (unhide HD4).slice
      have HVL : Hid (∀ x, (Value.slice va M.length vc).ownBlock = some x → base ≤ x) := hide (fun x e => (World.ownsRow.lt (unhide HD4).own x e).1)
      rw [unhide HRE] at HRP
      go_upto_region 4 with fail
      refine wp_region_held_drew (S := fun w' => Bx w' w.heap.size 112 #[.pointer (some ⟨p, 0, none⟩), .int .i64 (l.length : Int)]) mixed ((unhide HC4).below (Below.drew (Below.refl _ _))).bx (fun hS => ?_)
      have HC5 := hide ((unhide HC4).below (Below.drew (Below.refl _ _)))
      have HB5 := hide ((unhide HB4).below (Below.drew (Below.refl _ _)))
      have HD5 := hide ((unhide HD4).below (Below.drew (Below.refl _ _)))
      have HL5 : Hid (base ≤ wr.drew.heap.size) := hide (unhide HBL)
      clear HC4 HB4 HD4 HBL
      generalize wr.drew = Wd at hS HC5 HB5 HD5 HL5 ⊢
      refine wpAnyH_take (i := 0) (v := .pointer (some ⟨gc, 1, none⟩)) rfl (by kernel_rfl) (by kernel_rfl) (by kernel_rfl) (fun _ _ _ h => h) (Or.inl ⟨by rfl, fun W _ => by go_simp⟩) hS ?_
      go_simp
      refine wpAnyH_take (i := 1) (v := .pointer (some ⟨gc, 1, none⟩)) rfl (by kernel_rfl) (by kernel_rfl) (by kernel_rfl) (fun _ _ _ h => h) (Or.inl ⟨by rfl, fun W _ => by go_simp⟩) hS ?_
      go_simp
      refine wpAnyH_take (i := 3) (v := .agg #[.pointer (some ⟨p, 0, none⟩), .int .i64 (l.length : Int)]) rfl (by kernel_rfl) (by kernel_rfl) (by kernel_rfl) (fun _ _ _ h => h) (Or.inl ⟨by rfl, fun W h => by have h0 := h.c 0 rfl; have h1 := h.c 1 rfl; go_simp⟩) hS ?_
      go_simp
      refine wpAnyH_ready (rs := [2, 4]) (by kernel_rfl) (by simp) ?_
      refine AllReadyH.cons rfl (fun KK hK => ?_) ?_
      · have q2 := (unhide HB5).c 1 rfl
        go_simp
        refine hK.out _ _ (unhide HC5).bx (fun hS => ?_)
        clear hK KK q2
        refine wpAnyH_ready (rs := [4]) (by kernel_rfl) (by simp) ?_
        refine AllReadyH.cons rfl (fun KK hK => ?_) AllReadyH.nil
        go_simp
        have HK := hide (rtype (unhide HC5).rd)
        refine (unhide HK).mono ?_
        rintro e W12 (⟨t, kt, v, hm, rfl, ⟨rfl, ht⟩, hr, hg⟩ | ⟨a, er, hm, rfl, hg⟩)
        rotate_left
        · exact ⟨rfl, Or.inr ⟨_, _, by rw [fnP, unhide HNM]; show bndP (coP 8 l k1') _ = _; rw [unhide HCO]; show bndP (repP byP m l k3) _ = _; rw [← unhide HRP, rep_no _ hm]; rfl, rfl, grown_trans (unhide HC5).gr hg⟩⟩
        have HC12 := hide ((unhide HC5).step hr hg)
        have HB12 := hide (box_step (unhide HB5) hg (by have := (unhide HLO).1; omega))
        have HD12 := hide ((unhide HD5).box hg (by have := (unhide HLO); omega))
        have HL12 : Hid (base ≤ W12.heap.size) := hide (Nat.le_trans (unhide HL5) hg.size)
        have HTL := hide ht
        have HFD := hide hm
        refine hK.out _ _ (unhide HC12).bx (fun hS => ?_)
        clear hK KK HK hm hr hg HC5 HB5 HD5 HL5 ht
        refine wpAnyH_ready (rs := [5]) (by kernel_rfl) (by simp) ?_
        refine AllReadyH.cons rfl (fun KK hK => ?_) AllReadyH.nil
        go_simp
        have HA13 : Hid (C0 w (W12.alloc (.cells #[.int .u8 (t : Int)] 40)) p g cap l kt 44 #[.string ⟨#[]⟩, .slice none 0 0, .int .u8 0, .int .i64 0, .slice none 0 0]) := hide ((unhide HC12).below ((Below.refl _ _).alloc (Nat.le_refl _) _))
        have HBA13 := hide ((unhide HB12).below ((Below.refl W12.heap.size W12).alloc (Nat.le_refl _) (.cells #[.int .u8 (t : Int)] 40)))
        refine hK.out _ _ (unhide HA13).bx (fun hS => ?_)
        clear hK KK
        refine wpAnyH_ready (rs := [6]) (by kernel_rfl) (by simp) ?_
        refine AllReadyH.cons rfl (fun KK hK => ?_) AllReadyH.nil
        refine step_append_lies _ (by rfl) _ _ 39 (by rfl) base 40 i0 _ 1 1 Tryz.underlying39 hi0 hz0 hz1 hz2 rfl (by omega) (.slice va M.length vc) M.length (vals tyN M) (by rfl) (rowBelow (unhide HD12).own ((Below.refl _ _).alloc (Nat.le_refl _) _)) ⟨W12.heap.size, 0, none⟩ 1 1 (tyN.cells t) (by rfl) (by rfl) (World.news_of_block (cs := #[.int .u8 (t : Int)]) (t := 40) (fr := (0, 0)) (heap_alloc_new W12 _)) (fun u hu => by simp [tyN] at hu; rcases hu with rfl <;> rfl) (by omega) (by have := unhide HML; have := unhide HM32; unfold maxLen; omega) (by have := unhide HML; have := unhide HM32; omega) (by rw [World.size_alloc]; have := unhide HL12; omega) (W12.heap.size + 1) (by simp) ?_
        intro g3 cap3 W14 hown hgrow hat hlt3
        have al : Below W12.heap.size W12 (W12.alloc (.cells #[.int .u8 (t : Int)] 40)) := (Below.refl _ _).alloc (Nat.le_refl _) _
        have HD14 : Hid (Bld tyN W14 base (.slice (some ⟨g3, 0, none⟩) (M.length + 1) cap3) (M ++ [t])) := hide ((unhide HD12).snoc (y := t) (unhide HTL) trivial (fun _ _ => trivial) hown hgrow hat)
        have HC14 := hide (((unhide HC12).below al).row hgrow (fun x e => by have := unhide HVL x e; have := unhide HLO; omega) hgl)
        have HB14 := hide (((unhide HB12).below al).grown hgrow (fun e => by have := unhide HVL gc e; have := unhide HLO; omega))
        have HL14 : Hid (base ≤ W14.heap.size) := hide (by have := hgrow.size; rw [World.size_alloc] at this; have := unhide HL12; omega)
        refine hK.out _ _ (unhide HC14).bx (fun hS => ?_)
        clear hK KK hown hgrow hat hlt3 al HC12 HB12 HD12 HL12
        refine wpAnyH_take (i := 7) (v := .pointer (some ⟨gc, 1, none⟩)) rfl (by kernel_rfl) (by kernel_rfl) (by kernel_rfl) (fun _ _ _ h => h) (Or.inl ⟨by rfl, fun W _ => by go_simp⟩) hS ?_
        go_simp
        refine wpAnyH_take (i := 8) (v := .pointer (some ⟨gc, 1, none⟩)) rfl (by kernel_rfl) (by kernel_rfl) (by kernel_rfl) (fun _ _ _ h => h) (Or.inl ⟨by rfl, fun W _ => by go_simp⟩) hS ?_
        go_simp
        refine wpAnyH_ready (rs := [9]) (by kernel_rfl) (by simp) ?_
        refine AllReadyH.cons rfl (fun KK hK => ?_) AllReadyH.nil
        have q2 := (unhide HB14).c 1 rfl
        have f2 := (unhide HB14).f 1
        go_simp
        have hgs := grownBy_set W14 gc 1 (.slice (some ⟨g3, 0, none⟩) (M.length + 1) cap3)
        have HCn := hide ((unhide HC14).own hgs (unhide HLO).1 (by have := (unhide HLO).1; omega))
        have HBn : Hid (Bx (W14.setCell ⟨gc, 1, none⟩ (.slice (some ⟨g3, 0, none⟩) (M.length + 1) cap3)) gc 44 #[.string ⟨nm.toArray⟩, .slice (some ⟨g3, 0, none⟩) (M.length + 1) cap3, .int .u8 0, .int .i64 0, .slice none 0 0]) := hide ((unhide HB14).set 1 _ rfl)
        have HDn := hide ((unhide HD14).box hgs (unhide HLO).2)
        have HLn : Hid (base ≤ (W14.setCell ⟨gc, 1, none⟩ (.slice (some ⟨g3, 0, none⟩) (M.length + 1) cap3)).heap.size) := hide (Nat.le_trans (unhide HL14) hgs.size)
        have HMn : Hid ((M ++ [t]).length = q + 1) := hide (by rw [List.length_append, unhide HML]; rfl)
        have HRn : Hid ((bndP (repP byP (m - (q + 1)) l kt) fun xs j => (.ok ((M ++ [t]) ++ xs, j) : PR (List Nat))) = repP byP m l k3) := hide (by
          rw [← unhide HRP, rep_ok M (unhide HFD), show m - (q + 1) = r by have := unhide HRE; omega])
        clear q2 f2 hgs HC14 HB14 HD14 HL14 HRP HML
        refine hK.out _ _ (unhide HCn).bx (fun hS => ?_)
        clear hK KK hS
        refine wpAnyH_done (by kernel_rfl) ?_ _
        go_wp2
        go_roundw
        case rel => exact ⟨q + 1, _, kt, _, by omega, by go_num, HCn, HBn, HDn, HLn, HMn, HRn⟩
        case measure => simp [intOf]; omega
      · refine AllReadyH.cons rfl (fun KK hK => ?_) AllReadyH.nil
        go_simp
        have HK := hide (rtype (unhide HC5).rd)
        refine (unhide HK).mono ?_
        rintro e W15 (⟨t, kt, v, hm, rfl, ⟨rfl, ht⟩, hr, hg⟩ | ⟨a, er, hm, rfl, hg⟩)
        rotate_left
        · exact ⟨rfl, Or.inr ⟨_, _, by rw [fnP, unhide HNM]; show bndP (coP 8 l k1') _ = _; rw [unhide HCO]; show bndP (repP byP m l k3) _ = _; rw [← unhide HRP, rep_no _ hm]; rfl, rfl, grown_trans (unhide HC5).gr hg⟩⟩
        have HC15 := hide ((unhide HC5).step hr hg)
        have HB15 := hide (box_step (unhide HB5) hg (by have := (unhide HLO).1; omega))
        have HD15 := hide ((unhide HD5).box hg (by have := (unhide HLO); omega))
        have HL15 : Hid (base ≤ W15.heap.size) := hide (Nat.le_trans (unhide HL5) hg.size)
        have HTL := hide ht
        have HFD := hide hm
        refine hK.out _ _ (unhide HC15).bx (fun hS => ?_)
        clear hK KK HK hm hr hg HC5 HB5 HD5 HL5 ht
        refine wpAnyH_ready (rs := [2, 5]) (by kernel_rfl) (by simp) ?_
        refine AllReadyH.cons rfl (fun KK hK => ?_) ?_
        · have q2 := (unhide HB15).c 1 rfl
          go_simp
          refine hK.out _ _ (unhide HC15).bx (fun hS => ?_)
          clear hK KK q2
          refine wpAnyH_ready (rs := [5]) (by kernel_rfl) (by simp) ?_
          refine AllReadyH.cons rfl (fun KK hK => ?_) AllReadyH.nil
          go_simp
          have HA17 : Hid (C0 w (W15.alloc (.cells #[.int .u8 (t : Int)] 40)) p g cap l kt 44 #[.string ⟨#[]⟩, .slice none 0 0, .int .u8 0, .int .i64 0, .slice none 0 0]) := hide ((unhide HC15).below ((Below.refl _ _).alloc (Nat.le_refl _) _))
          have HBA17 := hide ((unhide HB15).below ((Below.refl W15.heap.size W15).alloc (Nat.le_refl _) (.cells #[.int .u8 (t : Int)] 40)))
          refine hK.out _ _ (unhide HA17).bx (fun hS => ?_)
          clear hK KK
          refine wpAnyH_ready (rs := [6]) (by kernel_rfl) (by simp) ?_
          refine AllReadyH.cons rfl (fun KK hK => ?_) AllReadyH.nil
          refine step_append_lies _ (by rfl) _ _ 39 (by rfl) base 40 i0 _ 1 1 Tryz.underlying39 hi0 hz0 hz1 hz2 rfl (by omega) (.slice va M.length vc) M.length (vals tyN M) (by rfl) (rowBelow (unhide HD15).own ((Below.refl _ _).alloc (Nat.le_refl _) _)) ⟨W15.heap.size, 0, none⟩ 1 1 (tyN.cells t) (by rfl) (by rfl) (World.news_of_block (cs := #[.int .u8 (t : Int)]) (t := 40) (fr := (0, 0)) (heap_alloc_new W15 _)) (fun u hu => by simp [tyN] at hu; rcases hu with rfl <;> rfl) (by omega) (by have := unhide HML; have := unhide HM32; unfold maxLen; omega) (by have := unhide HML; have := unhide HM32; omega) (by rw [World.size_alloc]; have := unhide HL15; omega) (W15.heap.size + 1) (by simp) ?_
          intro g3 cap3 W18 hown hgrow hat hlt3
          have al : Below W15.heap.size W15 (W15.alloc (.cells #[.int .u8 (t : Int)] 40)) := (Below.refl _ _).alloc (Nat.le_refl _) _
          have HD18 : Hid (Bld tyN W18 base (.slice (some ⟨g3, 0, none⟩) (M.length + 1) cap3) (M ++ [t])) := hide ((unhide HD15).snoc (y := t) (unhide HTL) trivial (fun _ _ => trivial) hown hgrow hat)
          have HC18 := hide (((unhide HC15).below al).row hgrow (fun x e => by have := unhide HVL x e; have := unhide HLO; omega) hgl)
          have HB18 := hide (((unhide HB15).below al).grown hgrow (fun e => by have := unhide HVL gc e; have := unhide HLO; omega))
          have HL18 : Hid (base ≤ W18.heap.size) := hide (by have := hgrow.size; rw [World.size_alloc] at this; have := unhide HL15; omega)
          refine hK.out _ _ (unhide HC18).bx (fun hS => ?_)
          clear hK KK hown hgrow hat hlt3 al HC15 HB15 HD15 HL15
          refine wpAnyH_take (i := 7) (v := .pointer (some ⟨gc, 1, none⟩)) rfl (by kernel_rfl) (by kernel_rfl) (by kernel_rfl) (fun _ _ _ h => h) (Or.inl ⟨by rfl, fun W _ => by go_simp⟩) hS ?_
          go_simp
          refine wpAnyH_take (i := 8) (v := .pointer (some ⟨gc, 1, none⟩)) rfl (by kernel_rfl) (by kernel_rfl) (by kernel_rfl) (fun _ _ _ h => h) (Or.inl ⟨by rfl, fun W _ => by go_simp⟩) hS ?_
          go_simp
          refine wpAnyH_ready (rs := [9]) (by kernel_rfl) (by simp) ?_
          refine AllReadyH.cons rfl (fun KK hK => ?_) AllReadyH.nil
          have q2 := (unhide HB18).c 1 rfl
          have f2 := (unhide HB18).f 1
          go_simp
          have hgs := grownBy_set W18 gc 1 (.slice (some ⟨g3, 0, none⟩) (M.length + 1) cap3)
          have HCn := hide ((unhide HC18).own hgs (unhide HLO).1 (by have := (unhide HLO).1; omega))
          have HBn : Hid (Bx (W18.setCell ⟨gc, 1, none⟩ (.slice (some ⟨g3, 0, none⟩) (M.length + 1) cap3)) gc 44 #[.string ⟨nm.toArray⟩, .slice (some ⟨g3, 0, none⟩) (M.length + 1) cap3, .int .u8 0, .int .i64 0, .slice none 0 0]) := hide ((unhide HB18).set 1 _ rfl)
          have HDn := hide ((unhide HD18).box hgs (unhide HLO).2)
          have HLn : Hid (base ≤ (W18.setCell ⟨gc, 1, none⟩ (.slice (some ⟨g3, 0, none⟩) (M.length + 1) cap3)).heap.size) := hide (Nat.le_trans (unhide HL18) hgs.size)
          have HMn : Hid ((M ++ [t]).length = q + 1) := hide (by rw [List.length_append, unhide HML]; rfl)
          have HRn : Hid ((bndP (repP byP (m - (q + 1)) l kt) fun xs j => (.ok ((M ++ [t]) ++ xs, j) : PR (List Nat))) = repP byP m l k3) := hide (by
            rw [← unhide HRP, rep_ok M (unhide HFD), show m - (q + 1) = r by have := unhide HRE; omega])
          clear q2 f2 hgs HC18 HB18 HD18 HL18 HRP HML
          refine hK.out _ _ (unhide HCn).bx (fun hS => ?_)
          clear hK KK hS
          refine wpAnyH_done (by kernel_rfl) ?_ _
          go_wp2
          go_roundw
          case rel => exact ⟨q + 1, _, kt, _, by omega, by go_num, HCn, HBn, HDn, HLn, HMn, HRn⟩
          case measure => simp [intOf]; omega
        · refine AllReadyH.cons rfl (fun KK hK => ?_) AllReadyH.nil
          go_simp
          have HA19 : Hid (C0 w (W15.alloc (.cells #[.int .u8 (t : Int)] 40)) p g cap l kt 44 #[.string ⟨#[]⟩, .slice none 0 0, .int .u8 0, .int .i64 0, .slice none 0 0]) := hide ((unhide HC15).below ((Below.refl _ _).alloc (Nat.le_refl _) _))
          have HBA19 := hide ((unhide HB15).below ((Below.refl W15.heap.size W15).alloc (Nat.le_refl _) (.cells #[.int .u8 (t : Int)] 40)))
          refine hK.out _ _ (unhide HA19).bx (fun hS => ?_)
          clear hK KK
          refine wpAnyH_ready (rs := [2]) (by kernel_rfl) (by simp) ?_
          refine AllReadyH.cons rfl (fun KK hK => ?_) AllReadyH.nil
          have q2 := (unhide HBA19).c 1 rfl
          go_simp
          refine hK.out _ _ (unhide HA19).bx (fun hS => ?_)
          clear hK KK q2
          refine wpAnyH_ready (rs := [6]) (by kernel_rfl) (by simp) ?_
          refine AllReadyH.cons rfl (fun KK hK => ?_) AllReadyH.nil
          refine step_append_lies _ (by rfl) _ _ 39 (by rfl) base 40 i0 _ 1 1 Tryz.underlying39 hi0 hz0 hz1 hz2 rfl (by omega) (.slice va M.length vc) M.length (vals tyN M) (by rfl) (rowBelow (unhide HD15).own ((Below.refl _ _).alloc (Nat.le_refl _) _)) ⟨W15.heap.size, 0, none⟩ 1 1 (tyN.cells t) (by rfl) (by rfl) (World.news_of_block (cs := #[.int .u8 (t : Int)]) (t := 40) (fr := (0, 0)) (heap_alloc_new W15 _)) (fun u hu => by simp [tyN] at hu; rcases hu with rfl <;> rfl) (by omega) (by have := unhide HML; have := unhide HM32; unfold maxLen; omega) (by have := unhide HML; have := unhide HM32; omega) (by rw [World.size_alloc]; have := unhide HL15; omega) (W15.heap.size + 1) (by simp) ?_
          intro g3 cap3 W21 hown hgrow hat hlt3
          have al : Below W15.heap.size W15 (W15.alloc (.cells #[.int .u8 (t : Int)] 40)) := (Below.refl _ _).alloc (Nat.le_refl _) _
          have HD21 : Hid (Bld tyN W21 base (.slice (some ⟨g3, 0, none⟩) (M.length + 1) cap3) (M ++ [t])) := hide ((unhide HD15).snoc (y := t) (unhide HTL) trivial (fun _ _ => trivial) hown hgrow hat)
          have HC21 := hide (((unhide HC15).below al).row hgrow (fun x e => by have := unhide HVL x e; have := unhide HLO; omega) hgl)
          have HB21 := hide (((unhide HB15).below al).grown hgrow (fun e => by have := unhide HVL gc e; have := unhide HLO; omega))
          have HL21 : Hid (base ≤ W21.heap.size) := hide (by have := hgrow.size; rw [World.size_alloc] at this; have := unhide HL15; omega)
          refine hK.out _ _ (unhide HC21).bx (fun hS => ?_)
          clear hK KK hown hgrow hat hlt3 al HC15 HB15 HD15 HL15
          refine wpAnyH_take (i := 7) (v := .pointer (some ⟨gc, 1, none⟩)) rfl (by kernel_rfl) (by kernel_rfl) (by kernel_rfl) (fun _ _ _ h => h) (Or.inl ⟨by rfl, fun W _ => by go_simp⟩) hS ?_
          go_simp
          refine wpAnyH_take (i := 8) (v := .pointer (some ⟨gc, 1, none⟩)) rfl (by kernel_rfl) (by kernel_rfl) (by kernel_rfl) (fun _ _ _ h => h) (Or.inl ⟨by rfl, fun W _ => by go_simp⟩) hS ?_
          go_simp
          refine wpAnyH_ready (rs := [9]) (by kernel_rfl) (by simp) ?_
          refine AllReadyH.cons rfl (fun KK hK => ?_) AllReadyH.nil
          have q2 := (unhide HB21).c 1 rfl
          have f2 := (unhide HB21).f 1
          go_simp
          have hgs := grownBy_set W21 gc 1 (.slice (some ⟨g3, 0, none⟩) (M.length + 1) cap3)
          have HCn := hide ((unhide HC21).own hgs (unhide HLO).1 (by have := (unhide HLO).1; omega))
          have HBn : Hid (Bx (W21.setCell ⟨gc, 1, none⟩ (.slice (some ⟨g3, 0, none⟩) (M.length + 1) cap3)) gc 44 #[.string ⟨nm.toArray⟩, .slice (some ⟨g3, 0, none⟩) (M.length + 1) cap3, .int .u8 0, .int .i64 0, .slice none 0 0]) := hide ((unhide HB21).set 1 _ rfl)
          have HDn := hide ((unhide HD21).box hgs (unhide HLO).2)
          have HLn : Hid (base ≤ (W21.setCell ⟨gc, 1, none⟩ (.slice (some ⟨g3, 0, none⟩) (M.length + 1) cap3)).heap.size) := hide (Nat.le_trans (unhide HL21) hgs.size)
          have HMn : Hid ((M ++ [t]).length = q + 1) := hide (by rw [List.length_append, unhide HML]; rfl)
          have HRn : Hid ((bndP (repP byP (m - (q + 1)) l kt) fun xs j => (.ok ((M ++ [t]) ++ xs, j) : PR (List Nat))) = repP byP m l k3) := hide (by
            rw [← unhide HRP, rep_ok M (unhide HFD), show m - (q + 1) = r by have := unhide HRE; omega])
          clear q2 f2 hgs HC21 HB21 HD21 HL21 HRP HML
          refine hK.out _ _ (unhide HCn).bx (fun hS => ?_)
          clear hK KK hS
          refine wpAnyH_done (by kernel_rfl) ?_ _
          go_wp2
          go_roundw
          case rel => exact ⟨q + 1, _, kt, _, by omega, by go_num, HCn, HBn, HDn, HLn, HMn, HRn⟩
          case measure => simp [intOf]; omega
    · have i1 : ¬ ((q : Nat) : Int) < ((m : Nat) : Int) := by omega
      have hqm : q = m := by omega
      have HRR : Hid (repP byP m l k3 = .ok (M, kq)) := hide (by rw [← unhide HRP, hqm, Nat.sub_self]; exact rep_end _)
      obtain ⟨pa, pc, rfl⟩ := (unhide HD4).slice
      clear HRP
      have k0 := (unhide HC4).bx.c 0 rfl
      have k1 := (unhide HC4).bx.c 1 rfl
      have HK := hide (rtype (unhide HC4).rd)
      go_wp2_with fail
      refine (unhide HK).mono ?_
      rintro e W6 (⟨rt, k6, v, hm, rfl, ⟨rfl, hrt⟩, hr, hg⟩ | ⟨a, er, hm, rfl, hg⟩)
      rotate_left
      · exact ⟨rfl, Or.inr ⟨_, _, by rw [fnP, unhide HNM]; show bndP (coP 8 l k1') _ = _; rw [unhide HCO]; show bndP (repP byP m l k3) _ = _; rw [unhide HRR]; show bndP (byP l kq) _ = _; rw [hm]; rfl, rfl, grown_trans (unhide HC4).gr hg⟩⟩
      have HRT := hide hm
      have HC6 := hide ((unhide HC4).step hr hg)
      have HB6 := hide (box_step (unhide HB4) hg (by have := (unhide HLO).1; omega))
      have HD6 := hide ((unhide HD4).box hg (by have := (unhide HLO); omega))
      have HL6 : Hid (base ≤ W6.heap.size) := hide (Nat.le_trans (unhide HBL) hg.size)
      clear hm hr hg HK k0 k1 HC4 HB4 HD4 HBL
      have q2 := (unhide HB6).c 2 rfl
      have f2 := (unhide HB6).f 2
      go_upto_region 7 with fail
      have hgs := grownBy_set W6 gc 2 (.int .u8 (rt : Int))
      have HC7 := hide ((unhide HC6).own hgs (unhide HLO).1 (by have := (unhide HLO).1; omega))
      have HB7 : Hid (Bx (W6.setCell ⟨gc, 2, none⟩ (.int .u8 (rt : Int))) gc 44 #[.string ⟨nm.toArray⟩, .slice pa M.length pc, .int .u8 (rt : Int), .int .i64 0, .slice none 0 0]) := hide ((unhide HB6).set 2 _ rfl)
      have HD7 := hide ((unhide HD6).box hgs (unhide HLO).2)
      have HL7 : Hid (base ≤ (W6.setCell ⟨gc, 2, none⟩ (.int .u8 (rt : Int))).heap.size) := hide (Nat.le_trans (unhide HL6) hgs.size)
      clear q2 f2 hgs HC6 HB6 HD6 HL6
      generalize W6.setCell ⟨gc, 2, none⟩ (.int .u8 (rt : Int)) = W7 at HC7 HB7 HD7 HL7 ⊢
      have k0 := (unhide HC7).bx.c 0 rfl
      have k1 := (unhide HC7).bx.c 1 rfl
      have HK := hide (rbyte (unhide HC7).rd)
      go_wp2_with fail
      refine (unhide HK).mono ?_
      rintro e W8 (⟨ln, k8, v, hm, rfl, rfl, hr, hg⟩ | ⟨a, er, hm, rfl, hg⟩)
      rotate_left
      · exact ⟨rfl, Or.inr ⟨_, _, by rw [fnP, unhide HNM]; show bndP (coP 8 l k1') _ = _; rw [unhide HCO]; show bndP (repP byP m l k3) _ = _; rw [unhide HRR]; show bndP (byP l kq) _ = _; rw [unhide HRT]; show bndP (byP l k6) _ = _; rw [hm]; rfl, rfl, grown_trans (unhide HC7).gr hg⟩⟩
      have HLN := hide hm
      have hln := byP_lt hm
      have HC8 := hide ((unhide HC7).step hr hg)
      have HB8 := hide (box_step (unhide HB7) hg (by have := (unhide HLO).1; omega))
      have HD8 := hide ((unhide HD7).box hg (by have := (unhide HLO); omega))
      have HL8 : Hid (base ≤ W8.heap.size) := hide (Nat.le_trans (unhide HL7) hg.size)
      clear hm hr hg HK k0 k1 HC7 HB7 HD7 HL7
      have q2 := (unhide HB8).c 3 rfl
      have f2 := (unhide HB8).f 3
      go_upto_region 8 with fail
      have hgs := grownBy_set W8 gc 3 (.int .i64 (ln : Int))
      have HC9 := hide ((unhide HC8).own hgs (unhide HLO).1 (by have := (unhide HLO).1; omega))
      have HB9 : Hid (Bx (W8.setCell ⟨gc, 3, none⟩ (.int .i64 (ln : Int))) gc 44 #[.string ⟨nm.toArray⟩, .slice pa M.length pc, .int .u8 (rt : Int), .int .i64 (ln : Int), .slice none 0 0]) := hide ((unhide HB8).set 3 _ rfl)
      have HD9 := hide ((unhide HD8).box hgs (unhide HLO).2)
      have HL9 : Hid (base ≤ (W8.setCell ⟨gc, 3, none⟩ (.int .i64 (ln : Int))).heap.size) := hide (Nat.le_trans (unhide HL8) hgs.size)
      clear q2 f2 hgs HC8 HB8 HD8 HL8
      generalize W8.setCell ⟨gc, 3, none⟩ (.int .i64 (ln : Int)) = W9 at HC9 HB9 HD9 HL9 ⊢
      have k0 := (unhide HC9).bx.c 0 rfl
      have k1 := (unhide HC9).bx.c 1 rfl
      have HK := hide (rlong (unhide HC9).rd)
      go_wp2_with fail
      refine (unhide HK).mono ?_
      rintro e Wa (⟨cd, ka, v, hm, rfl, ho, hr, hg⟩ | ⟨a, er, hm, rfl, hg⟩)
      rotate_left
      · exact ⟨rfl, Or.inr ⟨_, _, by rw [fnP, unhide HNM]; show bndP (coP 8 l k1') _ = _; rw [unhide HCO]; show bndP (repP byP m l k3) _ = _; rw [unhide HRR]; show bndP (byP l kq) _ = _; rw [unhide HRT]; show bndP (byP l k6) _ = _; rw [unhide HLN]; show bndP (loP l k8) _ = _; rw [hm]; rfl, rfl, grown_trans (unhide HC9).gr hg⟩⟩
      have HFP : Hid (fnP l k = .ok ((nm, (M, rt), (ln : Int), cd), ka)) := hide (by rw [fnP, unhide HNM]; show bndP (coP 8 l k1') _ = _; rw [unhide HCO]; show bndP (repP byP m l k3) _ = _; rw [unhide HRR]; show bndP (byP l kq) _ = _; rw [unhide HRT]; show bndP (byP l k6) _ = _; rw [unhide HLN]; show bndP (loP l k8) _ = _; rw [hm]; rfl)
      have hcl := lo_len hm
      obtain ⟨ca, cc, rfl, hba, hbl, hbn⟩ := own_out (ho.mono (unhide HL9))
      have HCa := hide ((unhide HC9).step hr hg)
      have HBa := hide (box_step (unhide HB9) hg (by have := (unhide HLO).1; omega))
      have HDa := hide ((unhide HD9).box hg (by have := (unhide HLO); omega))
      have HPA := hide (own_pl (ho.mono (unhide HL9)))
      have HBA := hide hba
      have HBK := hide hbl
      have HBN := hide hbn
      clear hm ho hr hg HK k0 k1 HC9 HB9 HD9 HL9 hba hbl hbn
      have q2 := (unhide HBa).c 4 rfl
      have f2 := (unhide HBa).f 4
      go_upto_region 9 with fail
      have hgs := grownBy_set Wa gc 4 (.slice ca cd.length cc)
      have HCb := hide ((unhide HCa).own hgs (unhide HLO).1 (by have := (unhide HLO).1; omega))
      have HBb : Hid (Bx (Wa.setCell ⟨gc, 4, none⟩ (.slice ca cd.length cc)) gc 44 #[.string ⟨nm.toArray⟩, .slice pa M.length pc, .int .u8 (rt : Int), .int .i64 (ln : Int), .slice ca cd.length cc]) := hide ((unhide HBa).set 4 _ rfl)
      have HDb := hide ((unhide HDa).box hgs (unhide HLO).2)
      have HAb := hide (bat_far (unhide HBA) hgs ((unhide HBK).mono (fun b hb => by have := (unhide HLO).2; omega)))
      have HPb := hide ((unhide HPA).far hgs ((unhide HBK).mono (fun b hb => by have := (unhide HLO).2; omega)))
      clear q2 f2 hgs HCa HBa HDa HBA HPA
      generalize Wa.setCell ⟨gc, 4, none⟩ (.slice ca cd.length cc) = Wb at HCb HBb HDb HAb HPb ⊢
      obtain ⟨pa', pc', hv, HROW, HALL, hnil, hcap⟩ := (unhide HDb).outC
      injection hv with e1 _ e2
      subst e1 e2
      have hgw := grown_row (W := Wb) (w.heap.size + 1) #[.string ⟨nm.toArray⟩, .slice pa M.length pc, .int .u8 (rt : Int), .int .i64 (ln : Int), .slice ca cd.length cc]
      have HZ : Hid (Bx (Wb.setRow (w.heap.size + 1) #[.string ⟨nm.toArray⟩, .slice pa M.length pc, .int .u8 (rt : Int), .int .i64 (ln : Int), .slice ca cd.length cc]) (w.heap.size + 1) 44 #[.string ⟨nm.toArray⟩, .slice pa M.length pc, .int .u8 (rt : Int), .int .i64 (ln : Int), .slice ca cd.length cc]) := hide (setRow_heap _ _ _ _ _ _ (unhide HCb).out)
      have HOK : Hid (fnN.ok (Wb.setRow (w.heap.size + 1) #[.string ⟨nm.toArray⟩, .slice pa M.length pc, .int .u8 (rt : Int), .int .i64 (ln : Int), .slice ca cd.length cc]) ⟨⟨nm.toArray⟩, ⟨pa, pc, M, rt⟩, (ln : Int), ca, cc, cd⟩) := hide ⟨⟨⟨pat_of_row (HROW.far hgw (RowAll.mono (fun b hb => by have := unhide HLO; omega) HALL)), fun e => (hnil e).1, bts_of_row HROW, by have := unhide HML; have := unhide HM32; show M.length ≤ _; omega, hrt⟩, bat_far (unhide HAb) hgw ((unhide HBK).mono (fun b hb => by have := (unhide HLO); omega)), fun e => (unhide HBN e).1, by show cd.length ≤ _; omega, Nat.le_trans (nm_small (unhide HNM)) (by omega), by show -9223372036854775808 ≤ (ln : Int) ∧ (ln : Int) ≤ 9223372036854775807; omega⟩, (unhide HPb).far hgw ((unhide HBK).mono (fun b hb => by have := (unhide HLO); omega))⟩
      have HALf : Hid (fnN.all (fun b => w.heap.size ≤ b) ⟨⟨nm.toArray⟩, ⟨pa, pc, M, rt⟩, (ln : Int), ca, cc, cd⟩) := hide ⟨fun b off e hl => by have := HALL.1 b off e hl; have := unhide HLO; omega, (unhide HBK).mono (fun b hb => by have := (unhide HLO); omega)⟩
      have HRD := hide ((unhide HCb).rd.kept hgw (fun e => by injection e with e; omega) (fun e => by injection e with e; omega))
      have HGG := hide (grownBy_more (unhide HCb).gr hgw (fun x e => Or.inl (by injection e with e; omega)))
      have HO := hide (unhide HCb).out
      have HBB := HBb
      clear hgw HROW HALL HDb hnil hcap HAb HCb HBb
      go_wp2_with (first | (refine wpList_load_rowG (by kernel_rfl) 44 (.tmp 3) rfl gc rfl 44 #[.string ⟨nm.toArray⟩, .slice pa M.length pc, .int .u8 (rt : Int), .int .i64 (ln : Int), .slice ca cd.length cc] (0, 0) _ (unhide HBB) Tryz.underlying44 rfl (by kernel_rfl) ?_) | (refine wpList_store_row rfl 44 _ _ rfl (w.heap.size + 1) #[.string ⟨nm.toArray⟩, .slice pa M.length pc, .int .u8 (rt : Int), .int .i64 (ln : Int), .slice ca cd.length cc] rfl rfl 44 #[.string ⟨#[]⟩, .slice none 0 0, .int .u8 0, .int .i64 0, .slice none 0 0] (unhide HO) (by kernel_rfl) rfl (by simp [Value.oneCell']) ?_))
      refine bodyPost_ret (results_bx rfl _ _ (w.heap.size + 1) _ rfl (run_loadVar_row _ _ 44 44 _ (0, 0) _ (unhide HZ) Tryz.underlying44 rfl (by kernel_rfl))) rfl (Or.inl ⟨_, ka, _, unhide HFP, rfl, ⟨⟨⟨nm.toArray⟩, ⟨pa, pc, M, rt⟩, (ln : Int), ca, cc, cd⟩, rfl, ?_, unhide HOK, unhide HALf⟩, unhide HRD, unhide HGG⟩)
      show ((⟨nm.toArray⟩ : ByteArray).toList, (M, rt), (ln : Int), cd) = _
      rw [ByteArray.toList_eq]
end Go.Proofs.YtibgfdjopikafaaGreatDoor

/-
  The module's reader: a module. Conditions: none but that the reader is one.
-/
namespace Go.Proofs.YtibgfdjopikafaaGreatDoor
open Go.RowKit
set_option maxRecDepth 20000
set_option linter.unusedVariables false
set_option linter.unusedSimpArgs false

theorem RowAt.keep {α : Type} {N : Nd α} {W W' : World} {ao : Option Addr} {L : List α} {row : Option Nat} {lo hi : Nat} (h : RowAt N W ao L) (hg : W.grownBy W' row) (ha : RowAll N (fun b => lo ≤ b ∧ b < hi) ao L) (hr : ∀ q, row = some q → q < lo ∨ hi ≤ q) : RowAt N W' ao L := by
  cases row with
  | none => exact h.below ⟨hg.os, hg.tape, hg.output, hg.size, fun q hq => hg.block q hq (by simp)⟩
  | some k => exact h.far hg (RowAll.mono (fun b hb => by have := hr k rfl; omega) ha)
theorem RowAt.span {α : Type} {N : Nd α} {W : World} {ao : Option Addr} {L : List α} {lo hi : Nat} (h : RowAt N W ao L) (ha : RowAll N (fun b => lo ≤ b) ao L) (hh : W.heap.size ≤ hi) (hb : ∀ (P Q : Nat → Prop) x, N.all P x → N.all Q x → N.all (fun b => P b ∧ Q b) x) : RowAll N (fun b => lo ≤ b ∧ b < hi) ao L :=
  ⟨fun b off e hl => ⟨ha.1 b off e hl, Nat.lt_of_lt_of_le (h.lt.1 b off e hl) hh⟩, fun y hy => hb _ _ y (ha.2 y hy) (N.mono (fun b hb => Nat.lt_of_lt_of_le hb hh) (h.lt.2 y hy))⟩
theorem cl_both (P Q : Nat → Prop) (x : Cl) (h : clN.all P x) (k : clN.all Q x) : clN.all (fun b => P b ∧ Q b) x := ⟨fun b off e hl => ⟨h.1 b off e hl, k.1 b off e hl⟩, fun _ _ => trivial⟩
theorem fn_both (P Q : Nat → Prop) (x : Fn) (h : fnN.all P x) (k : fnN.all Q x) : fnN.all (fun b => P b ∧ Q b) x := ⟨fun b off e hl => ⟨h.1 b off e hl, k.1 b off e hl⟩, fun b off e hl => ⟨h.2 b off e hl, k.2 b off e hl⟩⟩
theorem infoCl : (Tryz.prog.info? 80).map (fun i => (i.zero, i.size, i.bytes)) = some (some (.agg #[.string ⟨#[]⟩, .int .i64 0, .slice none 0 0]), 3, 48) := by kernel_rfl
theorem ct_hc (n : Nat) (L : List UInt8) (k : Nat) : ctP n L k = bndP (hcP n L k) fun b k1 => repP loP (if b = true then n else 0) L k1 := by
  unfold ctP hcP
  cases byP L k with
  | error e => rfl
  | ok y =>
    obtain ⟨c, k1⟩ := y
    show (if 1 < c ∨ (c = 1 ∧ n = 0) then _ else _) = bndP (if 1 < c ∨ (c = 1 ∧ n = 0) then _ else _) _
    by_cases h : 1 < c ∨ (c = 1 ∧ n = 0)
    · rw [if_pos h, if_pos h]; rfl
    · rw [if_neg h, if_neg h]
      show _ = repP loP (if (c == 1) = true then n else 0) L k1
      by_cases hc : c = 1
      · rw [if_pos hc, if_pos (by rw [hc]; rfl)]
      · rw [if_neg hc, if_neg (by simp [hc])]
/-- A module that was read: its rows lie in memory of their own. -/
structure MdR (W : World) (B : Nat) (y : Md) : Prop where
  T : RowAt clN W y.ao y.T
  F : RowAt fnN W y.fo y.F
  C : RowAt bsN W y.co y.C
  aT : RowAll clN (fun b => B ≤ b) y.ao y.T
  aF : RowAll fnN (fun b => B ≤ b) y.fo y.F
  aC : RowAll bsN (fun b => B ≤ b) y.co y.C
  capT : y.T.length ≤ y.cap
  capF : y.F.length ≤ y.fc
  lenT : y.T.length ≤ 32
  lenF : y.F.length ≤ 64
  lenC : y.C.length ≤ 64
  name : y.nm.size ≤ 255
  neF : NeRow fnN y.fo y.F
  neC : NeRow bsN y.co y.C
  cut : ∃ m, RowAll fnN (fun b => b < m) y.fo y.F ∧ RowAll bsN (fun b => m ≤ b) y.co y.C
theorem MdR.ok {W : World} {B : Nat} {y : Md} (h : MdR W B y) : MdOk W y :=
  ⟨tab_of_row h.T, by have := h.lenT; omega, fns_of_row h.F, by have := h.lenF; omega, bss_of_row h.C, by have := h.lenC; omega, by have := h.name; omega⟩
theorem MdR.nil {W : World} {B : Nat} {y : Md} (h : MdR W B y) : ∀ x ∈ y.C, x.ca = none → x.cc = 0 := fun x hx e => by
  obtain ⟨i, hi, e1⟩ := List.mem_iff_getElem.1 hx
  obtain ⟨_, _, _, _, h2⟩ := h.C i x (by rw [← e1]; exact List.getElem?_eq_getElem hi)
  exact (h2.nil e).2
theorem MdR.below {W W' : World} {B : Nat} {y : Md} (h : MdR W B y) (hb : Below W.heap.size W W') : MdR W' B y :=
  ⟨h.T.below hb, h.F.below hb, h.C.below hb, h.aT, h.aF, h.aC, h.capT, h.capF, h.lenT, h.lenF, h.lenC, h.name, h.neF, h.neC, h.cut⟩
theorem MdR.far {W W' : World} {B k : Nat} {y : Md} (h : MdR W B y) (hg : W.grownBy W' (some k)) (hk : k < B) : MdR W' B y :=
  ⟨h.T.far hg (RowAll.mono (fun b hb => by omega) h.aT), h.F.far hg (RowAll.mono (fun b hb => by omega) h.aF), h.C.far hg (RowAll.mono (fun b hb => by omega) h.aC), h.aT, h.aF, h.aC, h.capT, h.capF, h.lenT, h.lenF, h.lenC, h.name, h.neF, h.neC, h.cut⟩
theorem MdR.mono {W : World} {B A : Nat} {y : Md} (h : MdR W B y) (hk : A ≤ B) : MdR W A y :=
  ⟨h.T, h.F, h.C, RowAll.mono (fun b hb => by omega) h.aT, RowAll.mono (fun b hb => by omega) h.aF, RowAll.mono (fun b hb => by omega) h.aC, h.capT, h.capF, h.lenT, h.lenF, h.lenC, h.name, h.neF, h.neC, h.cut⟩
set_option maxHeartbeats 32000000 in
theorem rmodule {w : World} {p g cap : Nat} {l : List UInt8} {k : Nat} (h : IsReader w p g cap l k) : Calls Tryz.prog 71 #[.agg #[.pointer (some ⟨p, 0, none⟩), .int .i64 (l.length : Int)]] w (RP w p g cap l (mdP l k) (fun x v W => ∃ y : Md, v = .agg #[.string y.nm, .slice y.ao y.T.length y.cap, .slice y.fo y.F.length y.fc, .slice y.co y.C.length y.cc] ∧ mcOf y = x ∧ MdR W w.heap.size y)) := by
  obtain ⟨in1, hi1, hz10, hz11, hz12⟩ := info_parts infoCl
  obtain ⟨in2, hi2, hz20, hz21, hz22⟩ := info_parts infoFn
  obtain ⟨in3, hi3, hz30, hz31, hz32⟩ := info_parts infoBs
  have al1 := (Below.refl w.heap.size w).alloc (Nat.le_refl _) (.cells #[.pointer (some ⟨p, 0, none⟩), .int .i64 (l.length : Int)] 112)
  have al := al1.alloc (by simp) (.cells #[.string ⟨#[]⟩, .slice none 0 0, .slice none 0 0, .slice none 0 0] 26)
  have n1 := heap_alloc_new w (.cells #[.pointer (some ⟨p, 0, none⟩), .int .i64 (l.length : Int)] 112)
  have n2 := heap_alloc_new (w.alloc (.cells #[.pointer (some ⟨p, 0, none⟩), .int .i64 (l.length : Int)] 112)) (.cells #[.string ⟨#[]⟩, .slice none 0 0, .slice none 0 0, .slice none 0 0] 26)
  rw [World.size_alloc] at n2
  have HX0 : Hid (Bx ((w.alloc (.cells #[.pointer (some ⟨p, 0, none⟩), .int .i64 (l.length : Int)] 112)).alloc (.cells #[.string ⟨#[]⟩, .slice none 0 0, .slice none 0 0, .slice none 0 0] 26)) w.heap.size 112 #[.pointer (some ⟨p, 0, none⟩), .int .i64 (l.length : Int)]) := hide ((((Below.refl _ _).alloc (Nat.le_refl _) _).block w.heap.size (by simp)).trans n1)
  have HC : Hid (C0 w ((w.alloc (.cells #[.pointer (some ⟨p, 0, none⟩), .int .i64 (l.length : Int)] 112)).alloc (.cells #[.string ⟨#[]⟩, .slice none 0 0, .slice none 0 0, .slice none 0 0] 26)) p g cap l k 26 #[.string ⟨#[]⟩, .slice none 0 0, .slice none 0 0, .slice none 0 0]) := hide ⟨h.below al, grown_of_below al _, unhide HX0, n2, h.pl, by simp⟩
  have hpl : p < w.heap.size := h.pl
  have hgl : g < w.heap.size := h.gl
  have mixed := mixedT
  clear al1 al n1 n2 HX0 h
  go_enter Tryz.func71, Tryz.ntmps71
  go_upto_region 1 with fail
  generalize ((w.alloc (.cells #[.pointer (some ⟨p, 0, none⟩), .int .i64 (l.length : Int)] 112)).alloc (.cells #[.string ⟨#[]⟩, .slice none 0 0, .slice none 0 0, .slice none 0 0] 26)) = W1 at HC ⊢
  have k0 := (unhide HC).bx.c 0 rfl
  have k1 := (unhide HC).bx.c 1 rfl
  have HK := hide (rname (unhide HC).rd)
  go_wp2_with fail
  refine (unhide HK).mono ?_
  rintro e W2 (⟨nm, k1', v, hm, rfl, rfl, hr, hg⟩ | ⟨a, er, hm, rfl, hg⟩)
  rotate_left
  · exact ⟨rfl, Or.inr ⟨_, _, by rw [mdP, hm]; rfl, rfl, grown_trans (unhide HC).gr hg⟩⟩
  have HNM := hide hm
  have HC2 := hide ((unhide HC).step hr hg)
  clear hm hr hg HK k0 k1 HC
  have al : Below W2.heap.size W2 (W2.alloc (.cells #[.string ⟨nm.toArray⟩, .slice none 0 0, .slice none 0 0, .slice none 0 0] 26)) := (Below.refl _ _).alloc (Nat.le_refl _) _
  have HB1 : Hid (Bx (W2.alloc (.cells #[.string ⟨nm.toArray⟩, .slice none 0 0, .slice none 0 0, .slice none 0 0] 26)) W2.heap.size 26 #[.string ⟨nm.toArray⟩, .slice none 0 0, .slice none 0 0, .slice none 0 0]) := hide (heap_alloc_new W2 _)
  have HC1 := hide ((unhide HC2).below al)
  have HGC : Hid (w.heap.size + 2 ≤ W2.heap.size ∧ W2.heap.size < (W2.alloc (.cells #[.string ⟨nm.toArray⟩, .slice none 0 0, .slice none 0 0, .slice none 0 0] 26)).heap.size) := hide ⟨(unhide HC2).sz, by simp⟩
  clear al HC2
  go_upto_region 2 with fail
  generalize W2.alloc (.cells #[.string ⟨nm.toArray⟩, .slice none 0 0, .slice none 0 0, .slice none 0 0] 26) = Wx at HB1 HC1 HGC ⊢
  generalize W2.heap.size = gc at HB1 HGC ⊢
  have k0 := (unhide HC1).bx.c 0 rfl
  have k1 := (unhide HC1).bx.c 1 rfl
  have HK := hide (rcount (unhide HC1).rd 32)
  go_wp2_with fail
  refine (unhide HK).mono ?_
  rintro e W3 (⟨m1, k3, v, hm, rfl, ⟨rfl, hm8⟩, hr, hg⟩ | ⟨a, er, hm, rfl, hg⟩)
  rotate_left
  · exact ⟨rfl, Or.inr ⟨_, _, by rw [mdP, unhide HNM]; show bndP (coP 32 l k1') _ = _; rw [hm]; rfl, rfl, grown_trans (unhide HC1).gr hg⟩⟩
  have HC3 := hide ((unhide HC1).step hr hg)
  have HB3 := hide (box_step (unhide HB1) hg (by have := (unhide HGC).1; omega))
  have HCO1 := hide hm
  have hb3 : w.heap.size + 2 ≤ gc ∧ gc < W3.heap.size := ⟨(unhide HGC).1, Nat.lt_of_lt_of_le (unhide HGC).2 hg.size⟩
  obtain ⟨b1, HBS⟩ : ∃ b1, b1 = W3.heap.size := ⟨_, rfl⟩
  have HLO : Hid (w.heap.size + 2 ≤ gc ∧ gc < b1) := hide ⟨hb3.1, by omega⟩
  have HLO1 : Hid True := hide trivial
  have HL3 : Hid (b1 ≤ W3.heap.size) := hide (by omega)
  have HM1 : Hid (m1 ≤ 32) := hide (co_le hm)
  clear hm hr hg HK HC1 HB1 HGC k0 k1 hb3 HBS
  go_wp2_with fail
  go_loopw [9] (fun i wr => ∃ (q : Nat) (M : List Cl) (kq : Nat) (v : Value), q ≤ m1 ∧ i = .int .i64 (q : Int) ∧ Hid (C0 w wr p g cap l kq 26 #[.string ⟨#[]⟩, .slice none 0 0, .slice none 0 0, .slice none 0 0]) ∧ Hid (Bx wr gc 26 #[.string ⟨nm.toArray⟩, v, .slice none 0 0, .slice none 0 0]) ∧ Hid (Bld clN wr b1 v M) ∧ Hid (b1 ≤ wr.heap.size) ∧ Hid (M.length = q) ∧ Hid ((bndP (repP clP (m1 - q) l kq) fun xs j => (.ok (M.map clC ++ xs, j) : PR (List _))) = repP clP m1 l k3)) (fun i _ => m1 - (intOf i).toNat)
  case atStart => exact ⟨0, [], k3, .slice none 0 0, by omega, rfl, HC3, HB3, hide (Bld.nil _ _ _), HL3, hide rfl, hide (rep_start _)⟩
  case round =>
    clear HC3 HB3 HL3
    obtain ⟨qq1, M, kq, v, hqq1, rfl, HC101, HB101, HD101, HL101, HML, HRP⟩ := hrel
    by_cases hlt : qq1 < m1
    · have i1 : ((qq1 : Nat) : Int) < ((m1 : Nat) : Int) := by omega
      obtain ⟨r, HRE⟩ : ∃ r, Hid (m1 - qq1 = r + 1) := ⟨m1 - qq1 - 1, hide (by omega)⟩
      obtain ⟨va, vc, rfl⟩ := (unhide HD101).slice
      have HVL : Hid (∀ x, (Value.slice va M.length vc).ownBlock = some x → b1 ≤ x) := hide (fun x e => (World.ownsRow.lt (unhide HD101).own x e).1)
      rw [unhide HRE] at HRP
      go_upto_region 4 with fail
      refine wp_region_held_drew (S := fun w' => Bx w' w.heap.size 112 #[.pointer (some ⟨p, 0, none⟩), .int .i64 (l.length : Int)]) mixed ((unhide HC101).below (Below.drew (Below.refl _ _))).bx (fun hS => ?_)
      have HC102 := hide ((unhide HC101).below (Below.drew (Below.refl _ _)))
      have HB102 := hide ((unhide HB101).below (Below.drew (Below.refl _ _)))
      have HD102 := hide ((unhide HD101).below (Below.drew (Below.refl _ _)))
      have HL102 : Hid (b1 ≤ wr.drew.heap.size) := hide (unhide HL101)
      clear HC101 HB101 HD101 HL101
      generalize wr.drew = Wd at hS HC102 HB102 HD102 HL102 ⊢
      refine wpAnyH_take (i := 0) (v := .pointer (some ⟨gc, 1, none⟩)) rfl (by kernel_rfl) (by kernel_rfl) (by kernel_rfl) (fun _ _ _ h => h) (Or.inl ⟨by rfl, fun W _ => by go_simp⟩) hS ?_
      go_simp
      refine wpAnyH_take (i := 2) (v := .agg #[.pointer (some ⟨p, 0, none⟩), .int .i64 (l.length : Int)]) rfl (by kernel_rfl) (by kernel_rfl) (by kernel_rfl) (fun _ _ _ h => h) (Or.inl ⟨by rfl, fun W h => by have h0 := h.c 0 rfl; have h1 := h.c 1 rfl; go_simp⟩) hS ?_
      go_simp
      refine wpAnyH_ready (rs := [1, 3]) (by kernel_rfl) (by simp) ?_
      refine AllReadyH.cons rfl (fun KK hK => ?_) ?_
      · have q2 := (unhide HB102).c 1 rfl
        go_simp
        refine hK.out _ _ (unhide HC102).bx (fun hS => ?_)
        clear hK KK q2
        refine wpAnyH_ready (rs := [3]) (by kernel_rfl) (by simp) ?_
        refine AllReadyH.cons rfl (fun KK hK => ?_) AllReadyH.nil
        go_simp
        have HK := hide (rclass (unhide HC102).rd)
        refine (unhide HK).mono ?_
        rintro e W104 (⟨z, kt, v, hm, rfl, ⟨y, rfl, hyc, hyo, hya⟩, hr, hg⟩ | ⟨a, er, hm, rfl, hg⟩)
        rotate_left
        · exact ⟨rfl, Or.inr ⟨_, _, by rw [mdP, unhide HNM]; show bndP (coP 32 l k1') _ = _; rw [unhide HCO1]; show bndP (repP clP m1 l k3) _ = _; rw [← unhide HRP, rep_no _ hm]; rfl, rfl, grown_trans (unhide HC102).gr hg⟩⟩
        have HYC := hide hyc
        have HYO := hide hyo
        have HYL : Hid (clN.all (fun b => b1 ≤ b) y) := hide (clN.mono (fun b hb => Nat.le_trans (unhide HL102) hb) hya)
        have HYN : Hid (∀ x, (Value.slice va M.length vc).ownBlock = some x → clN.all (fun b => b ≠ x) y) := hide (fun x e => clN.mono (fun b hb => by have := (World.ownsRow.lt (unhide HD102).own x e).2; omega) hya)
        have HC104 := hide ((unhide HC102).step hr hg)
        have HB104 := hide (box_step (unhide HB102) hg (by have := (unhide HLO).1; omega))
        have HD104 := hide ((unhide HD102).box hg (by have := (unhide HLO); have := unhide HLO1; omega))
        have HL104 : Hid (b1 ≤ W104.heap.size) := hide (Nat.le_trans (unhide HL102) hg.size)
        have HFD := hide hm
        refine hK.out _ _ (unhide HC104).bx (fun hS => ?_)
        clear hK KK HK hm hr hg hyc hyo hya HC102 HB102 HD102 HL102
        refine wpAnyH_ready (rs := [4]) (by kernel_rfl) (by simp) ?_
        refine AllReadyH.cons rfl (fun KK hK => ?_) AllReadyH.nil
        go_simp
        have HA105 : Hid (C0 w (W104.alloc (.cells #[.string y.nm, .int .i64 y.par, .slice y.fo y.fs.length y.fc] 80)) p g cap l kt 26 #[.string ⟨#[]⟩, .slice none 0 0, .slice none 0 0, .slice none 0 0]) := hide ((unhide HC104).below ((Below.refl _ _).alloc (Nat.le_refl _) _))
        have HBA105 := hide ((unhide HB104).below ((Below.refl W104.heap.size W104).alloc (Nat.le_refl _) (.cells #[.string y.nm, .int .i64 y.par, .slice y.fo y.fs.length y.fc] 80)))
        refine hK.out _ _ (unhide HA105).bx (fun hS => ?_)
        clear hK KK
        refine wpAnyH_ready (rs := [5]) (by kernel_rfl) (by simp) ?_
        refine AllReadyH.cons rfl (fun KK hK => ?_) AllReadyH.nil
        refine step_append_lies _ (by rfl) _ _ 22 (by rfl) b1 80 in1 _ 3 48 Tryz.underlying22 hi1 hz10 hz11 hz12 rfl (by omega) (.slice va M.length vc) M.length (vals clN M) (by rfl) (rowBelow (unhide HD104).own ((Below.refl _ _).alloc (Nat.le_refl _) _)) ⟨W104.heap.size, 0, none⟩ 1 1 (clN.cells y) (by rfl) (by rfl) (World.news_of_block (cs := #[.string y.nm, .int .i64 y.par, .slice y.fo y.fs.length y.fc]) (t := 80) (fr := (0, 0)) (heap_alloc_new W104 _)) (fun u hu => by simp [clN] at hu; rcases hu with rfl | rfl | rfl <;> rfl) (by omega) (by have := unhide HML; have := unhide HM1; unfold maxLen; omega) (by have := unhide HML; have := unhide HM1; omega) (by rw [World.size_alloc]; have := unhide HL104; omega) (W104.heap.size + 1) (by simp) ?_
        intro g3 cap3 W106 hown hgrow hat hlt3
        have al : Below W104.heap.size W104 (W104.alloc (.cells #[.string y.nm, .int .i64 y.par, .slice y.fo y.fs.length y.fc] 80)) := (Below.refl _ _).alloc (Nat.le_refl _) _
        have HD106 : Hid (Bld clN W106 b1 (.slice (some ⟨g3, 0, none⟩) (M.length + 1) cap3) (M ++ [y])) := hide ((unhide HD104).snoc (y := y) (unhide HYO) (unhide HYL) (unhide HYN) hown hgrow hat)
        have HC106 := hide (((unhide HC104).below al).row hgrow (fun x e => by have := unhide HVL x e; have := unhide HLO; have := unhide HLO1; omega) hgl)
        have HB106 := hide (((unhide HB104).below al).grown hgrow (fun e => by have := unhide HVL gc e; have := unhide HLO; have := unhide HLO1; omega))
        have HL106 : Hid (b1 ≤ W106.heap.size) := hide (by have := hgrow.size; rw [World.size_alloc] at this; have := unhide HL104; omega)
        refine hK.out _ _ (unhide HC106).bx (fun hS => ?_)
        clear hK KK hown hgrow hat hlt3 al HC104 HB104 HD104 HL104
        refine wpAnyH_take (i := 6) (v := .pointer (some ⟨gc, 1, none⟩)) rfl (by kernel_rfl) (by kernel_rfl) (by kernel_rfl) (fun _ _ _ h => h) (Or.inl ⟨by rfl, fun W _ => by go_simp⟩) hS ?_
        go_simp
        refine wpAnyH_ready (rs := [7]) (by kernel_rfl) (by simp) ?_
        refine AllReadyH.cons rfl (fun KK hK => ?_) AllReadyH.nil
        have q2 := (unhide HB106).c 1 rfl
        have f2 := (unhide HB106).f 1
        go_simp
        have hgs := grownBy_set W106 gc 1 (.slice (some ⟨g3, 0, none⟩) (M.length + 1) cap3)
        have HCn := hide ((unhide HC106).own hgs (unhide HLO).1 (by have := (unhide HLO).1; omega))
        have HBn : Hid (Bx (W106.setCell ⟨gc, 1, none⟩ (.slice (some ⟨g3, 0, none⟩) (M.length + 1) cap3)) gc 26 #[.string ⟨nm.toArray⟩, .slice (some ⟨g3, 0, none⟩) (M.length + 1) cap3, .slice none 0 0, .slice none 0 0]) := hide ((unhide HB106).set 1 _ rfl)
        have HDn := hide ((unhide HD106).box hgs (by have := unhide HLO; have := unhide HLO1; omega))
        have HLn : Hid (b1 ≤ (W106.setCell ⟨gc, 1, none⟩ (.slice (some ⟨g3, 0, none⟩) (M.length + 1) cap3)).heap.size) := hide (Nat.le_trans (unhide HL106) hgs.size)
        have HMn : Hid ((M ++ [y]).length = qq1 + 1) := hide (by rw [List.length_append, unhide HML]; rfl)
        have HRn : Hid ((bndP (repP clP (m1 - (qq1 + 1)) l kt) fun xs j => (.ok ((M ++ [y]).map clC ++ xs, j) : PR (List _))) = repP clP m1 l k3) := hide (by
          rw [← unhide HRP, rep_ok (M.map clC) (unhide HFD), show m1 - (qq1 + 1) = r by have := unhide HRE; omega, List.map_append, List.map_cons, List.map_nil, unhide HYC])
        clear q2 f2 hgs HC106 HB106 HD106 HL106 HRP HML
        refine hK.out _ _ (unhide HCn).bx (fun hS => ?_)
        clear hK KK hS
        refine wpAnyH_done (by kernel_rfl) ?_ _
        go_wp2
        go_roundw
        case rel => exact ⟨qq1 + 1, _, kt, _, by omega, by go_num, HCn, HBn, HDn, HLn, HMn, HRn⟩
        case measure => simp [intOf]; omega
      · refine AllReadyH.cons rfl (fun KK hK => ?_) AllReadyH.nil
        go_simp
        have HK := hide (rclass (unhide HC102).rd)
        refine (unhide HK).mono ?_
        rintro e W107 (⟨z, kt, v, hm, rfl, ⟨y, rfl, hyc, hyo, hya⟩, hr, hg⟩ | ⟨a, er, hm, rfl, hg⟩)
        rotate_left
        · exact ⟨rfl, Or.inr ⟨_, _, by rw [mdP, unhide HNM]; show bndP (coP 32 l k1') _ = _; rw [unhide HCO1]; show bndP (repP clP m1 l k3) _ = _; rw [← unhide HRP, rep_no _ hm]; rfl, rfl, grown_trans (unhide HC102).gr hg⟩⟩
        have HYC := hide hyc
        have HYO := hide hyo
        have HYL : Hid (clN.all (fun b => b1 ≤ b) y) := hide (clN.mono (fun b hb => Nat.le_trans (unhide HL102) hb) hya)
        have HYN : Hid (∀ x, (Value.slice va M.length vc).ownBlock = some x → clN.all (fun b => b ≠ x) y) := hide (fun x e => clN.mono (fun b hb => by have := (World.ownsRow.lt (unhide HD102).own x e).2; omega) hya)
        have HC107 := hide ((unhide HC102).step hr hg)
        have HB107 := hide (box_step (unhide HB102) hg (by have := (unhide HLO).1; omega))
        have HD107 := hide ((unhide HD102).box hg (by have := (unhide HLO); have := unhide HLO1; omega))
        have HL107 : Hid (b1 ≤ W107.heap.size) := hide (Nat.le_trans (unhide HL102) hg.size)
        have HFD := hide hm
        refine hK.out _ _ (unhide HC107).bx (fun hS => ?_)
        clear hK KK HK hm hr hg hyc hyo hya HC102 HB102 HD102 HL102
        refine wpAnyH_ready (rs := [1, 4]) (by kernel_rfl) (by simp) ?_
        refine AllReadyH.cons rfl (fun KK hK => ?_) ?_
        · have q2 := (unhide HB107).c 1 rfl
          go_simp
          refine hK.out _ _ (unhide HC107).bx (fun hS => ?_)
          clear hK KK q2
          refine wpAnyH_ready (rs := [4]) (by kernel_rfl) (by simp) ?_
          refine AllReadyH.cons rfl (fun KK hK => ?_) AllReadyH.nil
          go_simp
          have HA109 : Hid (C0 w (W107.alloc (.cells #[.string y.nm, .int .i64 y.par, .slice y.fo y.fs.length y.fc] 80)) p g cap l kt 26 #[.string ⟨#[]⟩, .slice none 0 0, .slice none 0 0, .slice none 0 0]) := hide ((unhide HC107).below ((Below.refl _ _).alloc (Nat.le_refl _) _))
          have HBA109 := hide ((unhide HB107).below ((Below.refl W107.heap.size W107).alloc (Nat.le_refl _) (.cells #[.string y.nm, .int .i64 y.par, .slice y.fo y.fs.length y.fc] 80)))
          refine hK.out _ _ (unhide HA109).bx (fun hS => ?_)
          clear hK KK
          refine wpAnyH_ready (rs := [5]) (by kernel_rfl) (by simp) ?_
          refine AllReadyH.cons rfl (fun KK hK => ?_) AllReadyH.nil
          refine step_append_lies _ (by rfl) _ _ 22 (by rfl) b1 80 in1 _ 3 48 Tryz.underlying22 hi1 hz10 hz11 hz12 rfl (by omega) (.slice va M.length vc) M.length (vals clN M) (by rfl) (rowBelow (unhide HD107).own ((Below.refl _ _).alloc (Nat.le_refl _) _)) ⟨W107.heap.size, 0, none⟩ 1 1 (clN.cells y) (by rfl) (by rfl) (World.news_of_block (cs := #[.string y.nm, .int .i64 y.par, .slice y.fo y.fs.length y.fc]) (t := 80) (fr := (0, 0)) (heap_alloc_new W107 _)) (fun u hu => by simp [clN] at hu; rcases hu with rfl | rfl | rfl <;> rfl) (by omega) (by have := unhide HML; have := unhide HM1; unfold maxLen; omega) (by have := unhide HML; have := unhide HM1; omega) (by rw [World.size_alloc]; have := unhide HL107; omega) (W107.heap.size + 1) (by simp) ?_
          intro g3 cap3 W110 hown hgrow hat hlt3
          have al : Below W107.heap.size W107 (W107.alloc (.cells #[.string y.nm, .int .i64 y.par, .slice y.fo y.fs.length y.fc] 80)) := (Below.refl _ _).alloc (Nat.le_refl _) _
          have HD110 : Hid (Bld clN W110 b1 (.slice (some ⟨g3, 0, none⟩) (M.length + 1) cap3) (M ++ [y])) := hide ((unhide HD107).snoc (y := y) (unhide HYO) (unhide HYL) (unhide HYN) hown hgrow hat)
          have HC110 := hide (((unhide HC107).below al).row hgrow (fun x e => by have := unhide HVL x e; have := unhide HLO; have := unhide HLO1; omega) hgl)
          have HB110 := hide (((unhide HB107).below al).grown hgrow (fun e => by have := unhide HVL gc e; have := unhide HLO; have := unhide HLO1; omega))
          have HL110 : Hid (b1 ≤ W110.heap.size) := hide (by have := hgrow.size; rw [World.size_alloc] at this; have := unhide HL107; omega)
          refine hK.out _ _ (unhide HC110).bx (fun hS => ?_)
          clear hK KK hown hgrow hat hlt3 al HC107 HB107 HD107 HL107
          refine wpAnyH_take (i := 6) (v := .pointer (some ⟨gc, 1, none⟩)) rfl (by kernel_rfl) (by kernel_rfl) (by kernel_rfl) (fun _ _ _ h => h) (Or.inl ⟨by rfl, fun W _ => by go_simp⟩) hS ?_
          go_simp
          refine wpAnyH_ready (rs := [7]) (by kernel_rfl) (by simp) ?_
          refine AllReadyH.cons rfl (fun KK hK => ?_) AllReadyH.nil
          have q2 := (unhide HB110).c 1 rfl
          have f2 := (unhide HB110).f 1
          go_simp
          have hgs := grownBy_set W110 gc 1 (.slice (some ⟨g3, 0, none⟩) (M.length + 1) cap3)
          have HCn := hide ((unhide HC110).own hgs (unhide HLO).1 (by have := (unhide HLO).1; omega))
          have HBn : Hid (Bx (W110.setCell ⟨gc, 1, none⟩ (.slice (some ⟨g3, 0, none⟩) (M.length + 1) cap3)) gc 26 #[.string ⟨nm.toArray⟩, .slice (some ⟨g3, 0, none⟩) (M.length + 1) cap3, .slice none 0 0, .slice none 0 0]) := hide ((unhide HB110).set 1 _ rfl)
          have HDn := hide ((unhide HD110).box hgs (by have := unhide HLO; have := unhide HLO1; omega))
          have HLn : Hid (b1 ≤ (W110.setCell ⟨gc, 1, none⟩ (.slice (some ⟨g3, 0, none⟩) (M.length + 1) cap3)).heap.size) := hide (Nat.le_trans (unhide HL110) hgs.size)
          have HMn : Hid ((M ++ [y]).length = qq1 + 1) := hide (by rw [List.length_append, unhide HML]; rfl)
          have HRn : Hid ((bndP (repP clP (m1 - (qq1 + 1)) l kt) fun xs j => (.ok ((M ++ [y]).map clC ++ xs, j) : PR (List _))) = repP clP m1 l k3) := hide (by
            rw [← unhide HRP, rep_ok (M.map clC) (unhide HFD), show m1 - (qq1 + 1) = r by have := unhide HRE; omega, List.map_append, List.map_cons, List.map_nil, unhide HYC])
          clear q2 f2 hgs HC110 HB110 HD110 HL110 HRP HML
          refine hK.out _ _ (unhide HCn).bx (fun hS => ?_)
          clear hK KK hS
          refine wpAnyH_done (by kernel_rfl) ?_ _
          go_wp2
          go_roundw
          case rel => exact ⟨qq1 + 1, _, kt, _, by omega, by go_num, HCn, HBn, HDn, HLn, HMn, HRn⟩
          case measure => simp [intOf]; omega
        · refine AllReadyH.cons rfl (fun KK hK => ?_) AllReadyH.nil
          go_simp
          have HA111 : Hid (C0 w (W107.alloc (.cells #[.string y.nm, .int .i64 y.par, .slice y.fo y.fs.length y.fc] 80)) p g cap l kt 26 #[.string ⟨#[]⟩, .slice none 0 0, .slice none 0 0, .slice none 0 0]) := hide ((unhide HC107).below ((Below.refl _ _).alloc (Nat.le_refl _) _))
          have HBA111 := hide ((unhide HB107).below ((Below.refl W107.heap.size W107).alloc (Nat.le_refl _) (.cells #[.string y.nm, .int .i64 y.par, .slice y.fo y.fs.length y.fc] 80)))
          refine hK.out _ _ (unhide HA111).bx (fun hS => ?_)
          clear hK KK
          refine wpAnyH_ready (rs := [1]) (by kernel_rfl) (by simp) ?_
          refine AllReadyH.cons rfl (fun KK hK => ?_) AllReadyH.nil
          have q2 := (unhide HBA111).c 1 rfl
          go_simp
          refine hK.out _ _ (unhide HA111).bx (fun hS => ?_)
          clear hK KK q2
          refine wpAnyH_ready (rs := [5]) (by kernel_rfl) (by simp) ?_
          refine AllReadyH.cons rfl (fun KK hK => ?_) AllReadyH.nil
          refine step_append_lies _ (by rfl) _ _ 22 (by rfl) b1 80 in1 _ 3 48 Tryz.underlying22 hi1 hz10 hz11 hz12 rfl (by omega) (.slice va M.length vc) M.length (vals clN M) (by rfl) (rowBelow (unhide HD107).own ((Below.refl _ _).alloc (Nat.le_refl _) _)) ⟨W107.heap.size, 0, none⟩ 1 1 (clN.cells y) (by rfl) (by rfl) (World.news_of_block (cs := #[.string y.nm, .int .i64 y.par, .slice y.fo y.fs.length y.fc]) (t := 80) (fr := (0, 0)) (heap_alloc_new W107 _)) (fun u hu => by simp [clN] at hu; rcases hu with rfl | rfl | rfl <;> rfl) (by omega) (by have := unhide HML; have := unhide HM1; unfold maxLen; omega) (by have := unhide HML; have := unhide HM1; omega) (by rw [World.size_alloc]; have := unhide HL107; omega) (W107.heap.size + 1) (by simp) ?_
          intro g3 cap3 W113 hown hgrow hat hlt3
          have al : Below W107.heap.size W107 (W107.alloc (.cells #[.string y.nm, .int .i64 y.par, .slice y.fo y.fs.length y.fc] 80)) := (Below.refl _ _).alloc (Nat.le_refl _) _
          have HD113 : Hid (Bld clN W113 b1 (.slice (some ⟨g3, 0, none⟩) (M.length + 1) cap3) (M ++ [y])) := hide ((unhide HD107).snoc (y := y) (unhide HYO) (unhide HYL) (unhide HYN) hown hgrow hat)
          have HC113 := hide (((unhide HC107).below al).row hgrow (fun x e => by have := unhide HVL x e; have := unhide HLO; have := unhide HLO1; omega) hgl)
          have HB113 := hide (((unhide HB107).below al).grown hgrow (fun e => by have := unhide HVL gc e; have := unhide HLO; have := unhide HLO1; omega))
          have HL113 : Hid (b1 ≤ W113.heap.size) := hide (by have := hgrow.size; rw [World.size_alloc] at this; have := unhide HL107; omega)
          refine hK.out _ _ (unhide HC113).bx (fun hS => ?_)
          clear hK KK hown hgrow hat hlt3 al HC107 HB107 HD107 HL107
          refine wpAnyH_take (i := 6) (v := .pointer (some ⟨gc, 1, none⟩)) rfl (by kernel_rfl) (by kernel_rfl) (by kernel_rfl) (fun _ _ _ h => h) (Or.inl ⟨by rfl, fun W _ => by go_simp⟩) hS ?_
          go_simp
          refine wpAnyH_ready (rs := [7]) (by kernel_rfl) (by simp) ?_
          refine AllReadyH.cons rfl (fun KK hK => ?_) AllReadyH.nil
          have q2 := (unhide HB113).c 1 rfl
          have f2 := (unhide HB113).f 1
          go_simp
          have hgs := grownBy_set W113 gc 1 (.slice (some ⟨g3, 0, none⟩) (M.length + 1) cap3)
          have HCn := hide ((unhide HC113).own hgs (unhide HLO).1 (by have := (unhide HLO).1; omega))
          have HBn : Hid (Bx (W113.setCell ⟨gc, 1, none⟩ (.slice (some ⟨g3, 0, none⟩) (M.length + 1) cap3)) gc 26 #[.string ⟨nm.toArray⟩, .slice (some ⟨g3, 0, none⟩) (M.length + 1) cap3, .slice none 0 0, .slice none 0 0]) := hide ((unhide HB113).set 1 _ rfl)
          have HDn := hide ((unhide HD113).box hgs (by have := unhide HLO; have := unhide HLO1; omega))
          have HLn : Hid (b1 ≤ (W113.setCell ⟨gc, 1, none⟩ (.slice (some ⟨g3, 0, none⟩) (M.length + 1) cap3)).heap.size) := hide (Nat.le_trans (unhide HL113) hgs.size)
          have HMn : Hid ((M ++ [y]).length = qq1 + 1) := hide (by rw [List.length_append, unhide HML]; rfl)
          have HRn : Hid ((bndP (repP clP (m1 - (qq1 + 1)) l kt) fun xs j => (.ok ((M ++ [y]).map clC ++ xs, j) : PR (List _))) = repP clP m1 l k3) := hide (by
            rw [← unhide HRP, rep_ok (M.map clC) (unhide HFD), show m1 - (qq1 + 1) = r by have := unhide HRE; omega, List.map_append, List.map_cons, List.map_nil, unhide HYC])
          clear q2 f2 hgs HC113 HB113 HD113 HL113 HRP HML
          refine hK.out _ _ (unhide HCn).bx (fun hS => ?_)
          clear hK KK hS
          refine wpAnyH_done (by kernel_rfl) ?_ _
          go_wp2
          go_roundw
          case rel => exact ⟨qq1 + 1, _, kt, _, by omega, by go_num, HCn, HBn, HDn, HLn, HMn, HRn⟩
          case measure => simp [intOf]; omega
    · have i1 : ¬ ((qq1 : Nat) : Int) < ((m1 : Nat) : Int) := by omega
      have hqm : qq1 = m1 := by omega
      have HRR1 : Hid (repP clP m1 l k3 = .ok (M.map clC, kq)) := hide (by rw [← unhide HRP, hqm, Nat.sub_self]; exact rep_end _)
      obtain ⟨xa, xc, hv, hrow, hall, hnil, hcap⟩ := (unhide HD101).outC
      subst hv
      clear HRP
      obtain ⟨ta, HE1⟩ : ∃ t, t = xa := ⟨_, rfl⟩
      obtain ⟨tc, HE2⟩ : ∃ t, t = xc := ⟨_, rfl⟩
      obtain ⟨T, HE3⟩ : ∃ t, t = M := ⟨_, rfl⟩
      obtain ⟨kc, HE4⟩ : ∃ t, t = kq := ⟨_, rfl⟩
      subst HE1 HE2 HE3 HE4
      have HTL := hide (unhide HML)
      have hTm : Hid (T.length ≤ m1) := hide (by have := unhide HML; omega)
      have HCT := hide hcap
      clear HML
      have k0 := (unhide HC101).bx.c 0 rfl
      have k1 := (unhide HC101).bx.c 1 rfl
      have HK := hide (rcount (unhide HC101).rd 64)
      go_wp2_with fail
      refine (unhide HK).mono ?_
      rintro e W6 (⟨m2, kd, v, hm, rfl, ⟨rfl, hm8⟩, hr, hg⟩ | ⟨a, er, hm, rfl, hg⟩)
      rotate_left
      · exact ⟨rfl, Or.inr ⟨_, _, by rw [mdP, unhide HNM]; show bndP (coP 32 l k1') _ = _; rw [unhide HCO1]; show bndP (repP clP m1 l k3) _ = _; rw [unhide HRR1]; show bndP (coP 64 l kc) _ = _; rw [hm]; rfl, rfl, grown_trans (unhide HC101).gr hg⟩⟩
      have HCO2 := hide hm
      have HC6 := hide ((unhide HC101).step hr hg)
      have HB6 := hide (box_step (unhide HB101) hg (by have := (unhide HLO).1; omega))
      have hrow6 := hrow.far hg (RowAll.mono (fun b hb => by have := unhide HLO; omega) hall)
      obtain ⟨b2, HBS⟩ : ∃ b2, b2 = W6.heap.size := ⟨_, rfl⟩
      have HLO2 : Hid (b1 ≤ b2) := hide (by have := unhide HL101; have := hg.size; omega)
      have HAT : Hid (RowAll clN (fun b => b1 ≤ b ∧ b < b2) ta T) := hide (hrow6.span hall (by omega) cl_both)
      have HRT6 := hide hrow6
      have HL6 : Hid (b2 ≤ W6.heap.size) := hide (by omega)
      have HM2 : Hid (m2 ≤ 64) := hide (co_le hm)
      clear hm hr hg HK k0 k1 HC101 HB101 HD101 HL101 hrow hall hrow6 HBS hnil hcap
      go_wp2_with fail
      go_loopw [21] (fun i wr => ∃ (q : Nat) (M : List Fn) (kq : Nat) (v : Value), q ≤ m2 ∧ i = .int .i64 (q : Int) ∧ Hid (C0 w wr p g cap l kq 26 #[.string ⟨#[]⟩, .slice none 0 0, .slice none 0 0, .slice none 0 0]) ∧ Hid (Bx wr gc 26 #[.string ⟨nm.toArray⟩, .slice ta T.length tc, v, .slice none 0 0]) ∧ Hid (Bld fnN wr b2 v M) ∧ Hid (b2 ≤ wr.heap.size) ∧ Hid (M.length = q) ∧ Hid ((bndP (repP fnP (m2 - q) l kq) fun xs j => (.ok (M.map fnC ++ xs, j) : PR (List _))) = repP fnP m2 l kd) ∧ Hid (RowAt clN wr ta T)) (fun i _ => m2 - (intOf i).toNat)
      case atStart => exact ⟨0, [], kd, .slice none 0 0, by omega, rfl, HC6, HB6, hide (Bld.nil _ _ _), HL6, hide rfl, hide (rep_start _), HRT6⟩
      case round =>
        clear HC6 HB6 HL6 HRT6
        obtain ⟨qq2, M, kq, v, hqq2, rfl, HC114, HB114, HD114, HL114, HML, HRP, HRT114⟩ := hrel
        by_cases hlt : qq2 < m2
        · have i1 : ((qq2 : Nat) : Int) < ((m2 : Nat) : Int) := by omega
          obtain ⟨r, HRE⟩ : ∃ r, Hid (m2 - qq2 = r + 1) := ⟨m2 - qq2 - 1, hide (by omega)⟩
          obtain ⟨va, vc, rfl⟩ := (unhide HD114).slice
          have HVL : Hid (∀ x, (Value.slice va M.length vc).ownBlock = some x → b2 ≤ x) := hide (fun x e => (World.ownsRow.lt (unhide HD114).own x e).1)
          rw [unhide HRE] at HRP
          go_upto_region 8 with fail
          refine wp_region_held_drew (S := fun w' => Bx w' w.heap.size 112 #[.pointer (some ⟨p, 0, none⟩), .int .i64 (l.length : Int)]) mixed ((unhide HC114).below (Below.drew (Below.refl _ _))).bx (fun hS => ?_)
          have HC115 := hide ((unhide HC114).below (Below.drew (Below.refl _ _)))
          have HB115 := hide ((unhide HB114).below (Below.drew (Below.refl _ _)))
          have HD115 := hide ((unhide HD114).below (Below.drew (Below.refl _ _)))
          have HL115 : Hid (b2 ≤ wr.drew.heap.size) := hide (unhide HL114)
          have HRT115 := hide ((unhide HRT114).below (Below.drew (Below.refl _ _)))
          clear HC114 HB114 HD114 HL114 HRT114
          generalize wr.drew = Wd at hS HC115 HB115 HD115 HL115 HRT115 ⊢
          refine wpAnyH_take (i := 0) (v := .pointer (some ⟨gc, 2, none⟩)) rfl (by kernel_rfl) (by kernel_rfl) (by kernel_rfl) (fun _ _ _ h => h) (Or.inl ⟨by rfl, fun W _ => by go_simp⟩) hS ?_
          go_simp
          refine wpAnyH_take (i := 2) (v := .agg #[.pointer (some ⟨p, 0, none⟩), .int .i64 (l.length : Int)]) rfl (by kernel_rfl) (by kernel_rfl) (by kernel_rfl) (fun _ _ _ h => h) (Or.inl ⟨by rfl, fun W h => by have h0 := h.c 0 rfl; have h1 := h.c 1 rfl; go_simp⟩) hS ?_
          go_simp
          refine wpAnyH_ready (rs := [1, 3]) (by kernel_rfl) (by simp) ?_
          refine AllReadyH.cons rfl (fun KK hK => ?_) ?_
          · have q2 := (unhide HB115).c 2 rfl
            go_simp
            refine hK.out _ _ (unhide HC115).bx (fun hS => ?_)
            clear hK KK q2
            refine wpAnyH_ready (rs := [3]) (by kernel_rfl) (by simp) ?_
            refine AllReadyH.cons rfl (fun KK hK => ?_) AllReadyH.nil
            go_simp
            have HK := hide (rfunction (unhide HC115).rd)
            refine (unhide HK).mono ?_
            rintro e W117 (⟨z, kt, v, hm, rfl, ⟨y, rfl, hyc, hyo, hya⟩, hr, hg⟩ | ⟨a, er, hm, rfl, hg⟩)
            rotate_left
            · exact ⟨rfl, Or.inr ⟨_, _, by rw [mdP, unhide HNM]; show bndP (coP 32 l k1') _ = _; rw [unhide HCO1]; show bndP (repP clP m1 l k3) _ = _; rw [unhide HRR1]; show bndP (coP 64 l kc) _ = _; rw [unhide HCO2]; show bndP (repP fnP m2 l kd) _ = _; rw [← unhide HRP, rep_no _ hm]; rfl, rfl, grown_trans (unhide HC115).gr hg⟩⟩
            have HYC := hide hyc
            have HYO := hide hyo
            have HYL : Hid (fnN.all (fun b => b2 ≤ b) y) := hide (fnN.mono (fun b hb => Nat.le_trans (unhide HL115) hb) hya)
            have HYN : Hid (∀ x, (Value.slice va M.length vc).ownBlock = some x → fnN.all (fun b => b ≠ x) y) := hide (fun x e => fnN.mono (fun b hb => by have := (World.ownsRow.lt (unhide HD115).own x e).2; omega) hya)
            have HC117 := hide ((unhide HC115).step hr hg)
            have HB117 := hide (box_step (unhide HB115) hg (by have := (unhide HLO).1; omega))
            have HD117 := hide ((unhide HD115).box hg (by have := (unhide HLO); have := unhide HLO2; omega))
            have HL117 : Hid (b2 ≤ W117.heap.size) := hide (Nat.le_trans (unhide HL115) hg.size)
            have HFD := hide hm
            have HRT117 := hide ((unhide HRT115).keep hg (unhide HAT) (fun x e => by injection e with e; have := unhide HLO; have := unhide HLO2; omega))
            refine hK.out _ _ (unhide HC117).bx (fun hS => ?_)
            clear hK KK HK hm hr hg hyc hyo hya HC115 HB115 HD115 HL115 HRT115
            refine wpAnyH_ready (rs := [4]) (by kernel_rfl) (by simp) ?_
            refine AllReadyH.cons rfl (fun KK hK => ?_) AllReadyH.nil
            go_simp
            have HA118 : Hid (C0 w (W117.alloc (.cells #[.string y.nm, .slice y.sg.po y.sg.ps.length y.sg.pc, .int .u8 (y.sg.rt : Int), .int .i64 y.lo, .slice y.ca y.cd.length y.cc] 44)) p g cap l kt 26 #[.string ⟨#[]⟩, .slice none 0 0, .slice none 0 0, .slice none 0 0]) := hide ((unhide HC117).below ((Below.refl _ _).alloc (Nat.le_refl _) _))
            have HBA118 := hide ((unhide HB117).below ((Below.refl W117.heap.size W117).alloc (Nat.le_refl _) (.cells #[.string y.nm, .slice y.sg.po y.sg.ps.length y.sg.pc, .int .u8 (y.sg.rt : Int), .int .i64 y.lo, .slice y.ca y.cd.length y.cc] 44)))
            refine hK.out _ _ (unhide HA118).bx (fun hS => ?_)
            clear hK KK
            refine wpAnyH_ready (rs := [5]) (by kernel_rfl) (by simp) ?_
            refine AllReadyH.cons rfl (fun KK hK => ?_) AllReadyH.nil
            refine step_append_lies _ (by rfl) _ _ 23 (by rfl) b2 44 in2 _ 5 80 Tryz.underlying23 hi2 hz20 hz21 hz22 rfl (by omega) (.slice va M.length vc) M.length (vals fnN M) (by rfl) (rowBelow (unhide HD117).own ((Below.refl _ _).alloc (Nat.le_refl _) _)) ⟨W117.heap.size, 0, none⟩ 1 1 (fnN.cells y) (by rfl) (by rfl) (World.news_of_block (cs := #[.string y.nm, .slice y.sg.po y.sg.ps.length y.sg.pc, .int .u8 (y.sg.rt : Int), .int .i64 y.lo, .slice y.ca y.cd.length y.cc]) (t := 44) (fr := (0, 0)) (heap_alloc_new W117 _)) (fun u hu => by simp [fnN] at hu; rcases hu with rfl | rfl | rfl | rfl | rfl <;> rfl) (by omega) (by have := unhide HML; have := unhide HM2; unfold maxLen; omega) (by have := unhide HML; have := unhide HM2; omega) (by rw [World.size_alloc]; have := unhide HL117; omega) (W117.heap.size + 1) (by simp) ?_
            intro g3 cap3 W119 hown hgrow hat hlt3
            have al : Below W117.heap.size W117 (W117.alloc (.cells #[.string y.nm, .slice y.sg.po y.sg.ps.length y.sg.pc, .int .u8 (y.sg.rt : Int), .int .i64 y.lo, .slice y.ca y.cd.length y.cc] 44)) := (Below.refl _ _).alloc (Nat.le_refl _) _
            have HD119 : Hid (Bld fnN W119 b2 (.slice (some ⟨g3, 0, none⟩) (M.length + 1) cap3) (M ++ [y])) := hide ((unhide HD117).snoc (y := y) (unhide HYO) (unhide HYL) (unhide HYN) hown hgrow hat)
            have HC119 := hide (((unhide HC117).below al).row hgrow (fun x e => by have := unhide HVL x e; have := unhide HLO; have := unhide HLO2; omega) hgl)
            have HB119 := hide (((unhide HB117).below al).grown hgrow (fun e => by have := unhide HVL gc e; have := unhide HLO; have := unhide HLO2; omega))
            have HL119 : Hid (b2 ≤ W119.heap.size) := hide (by have := hgrow.size; rw [World.size_alloc] at this; have := unhide HL117; omega)
            have HRT119 := hide (((unhide HRT117).below al).keep hgrow (unhide HAT) (fun x e => by have := unhide HVL x e; have := unhide HLO; have := unhide HLO2; omega))
            refine hK.out _ _ (unhide HC119).bx (fun hS => ?_)
            clear hK KK hown hgrow hat hlt3 al HC117 HB117 HD117 HL117 HRT117
            refine wpAnyH_take (i := 6) (v := .pointer (some ⟨gc, 2, none⟩)) rfl (by kernel_rfl) (by kernel_rfl) (by kernel_rfl) (fun _ _ _ h => h) (Or.inl ⟨by rfl, fun W _ => by go_simp⟩) hS ?_
            go_simp
            refine wpAnyH_ready (rs := [7]) (by kernel_rfl) (by simp) ?_
            refine AllReadyH.cons rfl (fun KK hK => ?_) AllReadyH.nil
            have q2 := (unhide HB119).c 2 rfl
            have f2 := (unhide HB119).f 2
            go_simp
            have hgs := grownBy_set W119 gc 2 (.slice (some ⟨g3, 0, none⟩) (M.length + 1) cap3)
            have HCn := hide ((unhide HC119).own hgs (unhide HLO).1 (by have := (unhide HLO).1; omega))
            have HBn : Hid (Bx (W119.setCell ⟨gc, 2, none⟩ (.slice (some ⟨g3, 0, none⟩) (M.length + 1) cap3)) gc 26 #[.string ⟨nm.toArray⟩, .slice ta T.length tc, .slice (some ⟨g3, 0, none⟩) (M.length + 1) cap3, .slice none 0 0]) := hide ((unhide HB119).set 2 _ rfl)
            have HDn := hide ((unhide HD119).box hgs (by have := unhide HLO; have := unhide HLO2; omega))
            have HLn : Hid (b2 ≤ (W119.setCell ⟨gc, 2, none⟩ (.slice (some ⟨g3, 0, none⟩) (M.length + 1) cap3)).heap.size) := hide (Nat.le_trans (unhide HL119) hgs.size)
            have HMn : Hid ((M ++ [y]).length = qq2 + 1) := hide (by rw [List.length_append, unhide HML]; rfl)
            have HRn : Hid ((bndP (repP fnP (m2 - (qq2 + 1)) l kt) fun xs j => (.ok ((M ++ [y]).map fnC ++ xs, j) : PR (List _))) = repP fnP m2 l kd) := hide (by
              rw [← unhide HRP, rep_ok (M.map fnC) (unhide HFD), show m2 - (qq2 + 1) = r by have := unhide HRE; omega, List.map_append, List.map_cons, List.map_nil, unhide HYC])
            have HRTn := hide ((unhide HRT119).keep hgs (unhide HAT) (fun x e => by injection e with e; have := unhide HLO; have := unhide HLO2; omega))
            clear q2 f2 hgs HC119 HB119 HD119 HL119 HRT119 HRP HML
            refine hK.out _ _ (unhide HCn).bx (fun hS => ?_)
            clear hK KK hS
            refine wpAnyH_done (by kernel_rfl) ?_ _
            go_wp2
            go_roundw
            case rel => exact ⟨qq2 + 1, _, kt, _, by omega, by go_num, HCn, HBn, HDn, HLn, HMn, HRn, HRTn⟩
            case measure => simp [intOf]; omega
          · refine AllReadyH.cons rfl (fun KK hK => ?_) AllReadyH.nil
            go_simp
            have HK := hide (rfunction (unhide HC115).rd)
            refine (unhide HK).mono ?_
            rintro e W120 (⟨z, kt, v, hm, rfl, ⟨y, rfl, hyc, hyo, hya⟩, hr, hg⟩ | ⟨a, er, hm, rfl, hg⟩)
            rotate_left
            · exact ⟨rfl, Or.inr ⟨_, _, by rw [mdP, unhide HNM]; show bndP (coP 32 l k1') _ = _; rw [unhide HCO1]; show bndP (repP clP m1 l k3) _ = _; rw [unhide HRR1]; show bndP (coP 64 l kc) _ = _; rw [unhide HCO2]; show bndP (repP fnP m2 l kd) _ = _; rw [← unhide HRP, rep_no _ hm]; rfl, rfl, grown_trans (unhide HC115).gr hg⟩⟩
            have HYC := hide hyc
            have HYO := hide hyo
            have HYL : Hid (fnN.all (fun b => b2 ≤ b) y) := hide (fnN.mono (fun b hb => Nat.le_trans (unhide HL115) hb) hya)
            have HYN : Hid (∀ x, (Value.slice va M.length vc).ownBlock = some x → fnN.all (fun b => b ≠ x) y) := hide (fun x e => fnN.mono (fun b hb => by have := (World.ownsRow.lt (unhide HD115).own x e).2; omega) hya)
            have HC120 := hide ((unhide HC115).step hr hg)
            have HB120 := hide (box_step (unhide HB115) hg (by have := (unhide HLO).1; omega))
            have HD120 := hide ((unhide HD115).box hg (by have := (unhide HLO); have := unhide HLO2; omega))
            have HL120 : Hid (b2 ≤ W120.heap.size) := hide (Nat.le_trans (unhide HL115) hg.size)
            have HFD := hide hm
            have HRT120 := hide ((unhide HRT115).keep hg (unhide HAT) (fun x e => by injection e with e; have := unhide HLO; have := unhide HLO2; omega))
            refine hK.out _ _ (unhide HC120).bx (fun hS => ?_)
            clear hK KK HK hm hr hg hyc hyo hya HC115 HB115 HD115 HL115 HRT115
            refine wpAnyH_ready (rs := [1, 4]) (by kernel_rfl) (by simp) ?_
            refine AllReadyH.cons rfl (fun KK hK => ?_) ?_
            · have q2 := (unhide HB120).c 2 rfl
              go_simp
              refine hK.out _ _ (unhide HC120).bx (fun hS => ?_)
              clear hK KK q2
              refine wpAnyH_ready (rs := [4]) (by kernel_rfl) (by simp) ?_
              refine AllReadyH.cons rfl (fun KK hK => ?_) AllReadyH.nil
              go_simp
              have HA122 : Hid (C0 w (W120.alloc (.cells #[.string y.nm, .slice y.sg.po y.sg.ps.length y.sg.pc, .int .u8 (y.sg.rt : Int), .int .i64 y.lo, .slice y.ca y.cd.length y.cc] 44)) p g cap l kt 26 #[.string ⟨#[]⟩, .slice none 0 0, .slice none 0 0, .slice none 0 0]) := hide ((unhide HC120).below ((Below.refl _ _).alloc (Nat.le_refl _) _))
              have HBA122 := hide ((unhide HB120).below ((Below.refl W120.heap.size W120).alloc (Nat.le_refl _) (.cells #[.string y.nm, .slice y.sg.po y.sg.ps.length y.sg.pc, .int .u8 (y.sg.rt : Int), .int .i64 y.lo, .slice y.ca y.cd.length y.cc] 44)))
              refine hK.out _ _ (unhide HA122).bx (fun hS => ?_)
              clear hK KK
              refine wpAnyH_ready (rs := [5]) (by kernel_rfl) (by simp) ?_
              refine AllReadyH.cons rfl (fun KK hK => ?_) AllReadyH.nil
              refine step_append_lies _ (by rfl) _ _ 23 (by rfl) b2 44 in2 _ 5 80 Tryz.underlying23 hi2 hz20 hz21 hz22 rfl (by omega) (.slice va M.length vc) M.length (vals fnN M) (by rfl) (rowBelow (unhide HD120).own ((Below.refl _ _).alloc (Nat.le_refl _) _)) ⟨W120.heap.size, 0, none⟩ 1 1 (fnN.cells y) (by rfl) (by rfl) (World.news_of_block (cs := #[.string y.nm, .slice y.sg.po y.sg.ps.length y.sg.pc, .int .u8 (y.sg.rt : Int), .int .i64 y.lo, .slice y.ca y.cd.length y.cc]) (t := 44) (fr := (0, 0)) (heap_alloc_new W120 _)) (fun u hu => by simp [fnN] at hu; rcases hu with rfl | rfl | rfl | rfl | rfl <;> rfl) (by omega) (by have := unhide HML; have := unhide HM2; unfold maxLen; omega) (by have := unhide HML; have := unhide HM2; omega) (by rw [World.size_alloc]; have := unhide HL120; omega) (W120.heap.size + 1) (by simp) ?_
              intro g3 cap3 W123 hown hgrow hat hlt3
              have al : Below W120.heap.size W120 (W120.alloc (.cells #[.string y.nm, .slice y.sg.po y.sg.ps.length y.sg.pc, .int .u8 (y.sg.rt : Int), .int .i64 y.lo, .slice y.ca y.cd.length y.cc] 44)) := (Below.refl _ _).alloc (Nat.le_refl _) _
              have HD123 : Hid (Bld fnN W123 b2 (.slice (some ⟨g3, 0, none⟩) (M.length + 1) cap3) (M ++ [y])) := hide ((unhide HD120).snoc (y := y) (unhide HYO) (unhide HYL) (unhide HYN) hown hgrow hat)
              have HC123 := hide (((unhide HC120).below al).row hgrow (fun x e => by have := unhide HVL x e; have := unhide HLO; have := unhide HLO2; omega) hgl)
              have HB123 := hide (((unhide HB120).below al).grown hgrow (fun e => by have := unhide HVL gc e; have := unhide HLO; have := unhide HLO2; omega))
              have HL123 : Hid (b2 ≤ W123.heap.size) := hide (by have := hgrow.size; rw [World.size_alloc] at this; have := unhide HL120; omega)
              have HRT123 := hide (((unhide HRT120).below al).keep hgrow (unhide HAT) (fun x e => by have := unhide HVL x e; have := unhide HLO; have := unhide HLO2; omega))
              refine hK.out _ _ (unhide HC123).bx (fun hS => ?_)
              clear hK KK hown hgrow hat hlt3 al HC120 HB120 HD120 HL120 HRT120
              refine wpAnyH_take (i := 6) (v := .pointer (some ⟨gc, 2, none⟩)) rfl (by kernel_rfl) (by kernel_rfl) (by kernel_rfl) (fun _ _ _ h => h) (Or.inl ⟨by rfl, fun W _ => by go_simp⟩) hS ?_
              go_simp
              refine wpAnyH_ready (rs := [7]) (by kernel_rfl) (by simp) ?_
              refine AllReadyH.cons rfl (fun KK hK => ?_) AllReadyH.nil
              have q2 := (unhide HB123).c 2 rfl
              have f2 := (unhide HB123).f 2
              go_simp
              have hgs := grownBy_set W123 gc 2 (.slice (some ⟨g3, 0, none⟩) (M.length + 1) cap3)
              have HCn := hide ((unhide HC123).own hgs (unhide HLO).1 (by have := (unhide HLO).1; omega))
              have HBn : Hid (Bx (W123.setCell ⟨gc, 2, none⟩ (.slice (some ⟨g3, 0, none⟩) (M.length + 1) cap3)) gc 26 #[.string ⟨nm.toArray⟩, .slice ta T.length tc, .slice (some ⟨g3, 0, none⟩) (M.length + 1) cap3, .slice none 0 0]) := hide ((unhide HB123).set 2 _ rfl)
              have HDn := hide ((unhide HD123).box hgs (by have := unhide HLO; have := unhide HLO2; omega))
              have HLn : Hid (b2 ≤ (W123.setCell ⟨gc, 2, none⟩ (.slice (some ⟨g3, 0, none⟩) (M.length + 1) cap3)).heap.size) := hide (Nat.le_trans (unhide HL123) hgs.size)
              have HMn : Hid ((M ++ [y]).length = qq2 + 1) := hide (by rw [List.length_append, unhide HML]; rfl)
              have HRn : Hid ((bndP (repP fnP (m2 - (qq2 + 1)) l kt) fun xs j => (.ok ((M ++ [y]).map fnC ++ xs, j) : PR (List _))) = repP fnP m2 l kd) := hide (by
                rw [← unhide HRP, rep_ok (M.map fnC) (unhide HFD), show m2 - (qq2 + 1) = r by have := unhide HRE; omega, List.map_append, List.map_cons, List.map_nil, unhide HYC])
              have HRTn := hide ((unhide HRT123).keep hgs (unhide HAT) (fun x e => by injection e with e; have := unhide HLO; have := unhide HLO2; omega))
              clear q2 f2 hgs HC123 HB123 HD123 HL123 HRT123 HRP HML
              refine hK.out _ _ (unhide HCn).bx (fun hS => ?_)
              clear hK KK hS
              refine wpAnyH_done (by kernel_rfl) ?_ _
              go_wp2
              go_roundw
              case rel => exact ⟨qq2 + 1, _, kt, _, by omega, by go_num, HCn, HBn, HDn, HLn, HMn, HRn, HRTn⟩
              case measure => simp [intOf]; omega
            · refine AllReadyH.cons rfl (fun KK hK => ?_) AllReadyH.nil
              go_simp
              have HA124 : Hid (C0 w (W120.alloc (.cells #[.string y.nm, .slice y.sg.po y.sg.ps.length y.sg.pc, .int .u8 (y.sg.rt : Int), .int .i64 y.lo, .slice y.ca y.cd.length y.cc] 44)) p g cap l kt 26 #[.string ⟨#[]⟩, .slice none 0 0, .slice none 0 0, .slice none 0 0]) := hide ((unhide HC120).below ((Below.refl _ _).alloc (Nat.le_refl _) _))
              have HBA124 := hide ((unhide HB120).below ((Below.refl W120.heap.size W120).alloc (Nat.le_refl _) (.cells #[.string y.nm, .slice y.sg.po y.sg.ps.length y.sg.pc, .int .u8 (y.sg.rt : Int), .int .i64 y.lo, .slice y.ca y.cd.length y.cc] 44)))
              refine hK.out _ _ (unhide HA124).bx (fun hS => ?_)
              clear hK KK
              refine wpAnyH_ready (rs := [1]) (by kernel_rfl) (by simp) ?_
              refine AllReadyH.cons rfl (fun KK hK => ?_) AllReadyH.nil
              have q2 := (unhide HBA124).c 2 rfl
              go_simp
              refine hK.out _ _ (unhide HA124).bx (fun hS => ?_)
              clear hK KK q2
              refine wpAnyH_ready (rs := [5]) (by kernel_rfl) (by simp) ?_
              refine AllReadyH.cons rfl (fun KK hK => ?_) AllReadyH.nil
              refine step_append_lies _ (by rfl) _ _ 23 (by rfl) b2 44 in2 _ 5 80 Tryz.underlying23 hi2 hz20 hz21 hz22 rfl (by omega) (.slice va M.length vc) M.length (vals fnN M) (by rfl) (rowBelow (unhide HD120).own ((Below.refl _ _).alloc (Nat.le_refl _) _)) ⟨W120.heap.size, 0, none⟩ 1 1 (fnN.cells y) (by rfl) (by rfl) (World.news_of_block (cs := #[.string y.nm, .slice y.sg.po y.sg.ps.length y.sg.pc, .int .u8 (y.sg.rt : Int), .int .i64 y.lo, .slice y.ca y.cd.length y.cc]) (t := 44) (fr := (0, 0)) (heap_alloc_new W120 _)) (fun u hu => by simp [fnN] at hu; rcases hu with rfl | rfl | rfl | rfl | rfl <;> rfl) (by omega) (by have := unhide HML; have := unhide HM2; unfold maxLen; omega) (by have := unhide HML; have := unhide HM2; omega) (by rw [World.size_alloc]; have := unhide HL120; omega) (W120.heap.size + 1) (by simp) ?_
              intro g3 cap3 W126 hown hgrow hat hlt3
              have al : Below W120.heap.size W120 (W120.alloc (.cells #[.string y.nm, .slice y.sg.po y.sg.ps.length y.sg.pc, .int .u8 (y.sg.rt : Int), .int .i64 y.lo, .slice y.ca y.cd.length y.cc] 44)) := (Below.refl _ _).alloc (Nat.le_refl _) _
              have HD126 : Hid (Bld fnN W126 b2 (.slice (some ⟨g3, 0, none⟩) (M.length + 1) cap3) (M ++ [y])) := hide ((unhide HD120).snoc (y := y) (unhide HYO) (unhide HYL) (unhide HYN) hown hgrow hat)
              have HC126 := hide (((unhide HC120).below al).row hgrow (fun x e => by have := unhide HVL x e; have := unhide HLO; have := unhide HLO2; omega) hgl)
              have HB126 := hide (((unhide HB120).below al).grown hgrow (fun e => by have := unhide HVL gc e; have := unhide HLO; have := unhide HLO2; omega))
              have HL126 : Hid (b2 ≤ W126.heap.size) := hide (by have := hgrow.size; rw [World.size_alloc] at this; have := unhide HL120; omega)
              have HRT126 := hide (((unhide HRT120).below al).keep hgrow (unhide HAT) (fun x e => by have := unhide HVL x e; have := unhide HLO; have := unhide HLO2; omega))
              refine hK.out _ _ (unhide HC126).bx (fun hS => ?_)
              clear hK KK hown hgrow hat hlt3 al HC120 HB120 HD120 HL120 HRT120
              refine wpAnyH_take (i := 6) (v := .pointer (some ⟨gc, 2, none⟩)) rfl (by kernel_rfl) (by kernel_rfl) (by kernel_rfl) (fun _ _ _ h => h) (Or.inl ⟨by rfl, fun W _ => by go_simp⟩) hS ?_
              go_simp
              refine wpAnyH_ready (rs := [7]) (by kernel_rfl) (by simp) ?_
              refine AllReadyH.cons rfl (fun KK hK => ?_) AllReadyH.nil
              have q2 := (unhide HB126).c 2 rfl
              have f2 := (unhide HB126).f 2
              go_simp
              have hgs := grownBy_set W126 gc 2 (.slice (some ⟨g3, 0, none⟩) (M.length + 1) cap3)
              have HCn := hide ((unhide HC126).own hgs (unhide HLO).1 (by have := (unhide HLO).1; omega))
              have HBn : Hid (Bx (W126.setCell ⟨gc, 2, none⟩ (.slice (some ⟨g3, 0, none⟩) (M.length + 1) cap3)) gc 26 #[.string ⟨nm.toArray⟩, .slice ta T.length tc, .slice (some ⟨g3, 0, none⟩) (M.length + 1) cap3, .slice none 0 0]) := hide ((unhide HB126).set 2 _ rfl)
              have HDn := hide ((unhide HD126).box hgs (by have := unhide HLO; have := unhide HLO2; omega))
              have HLn : Hid (b2 ≤ (W126.setCell ⟨gc, 2, none⟩ (.slice (some ⟨g3, 0, none⟩) (M.length + 1) cap3)).heap.size) := hide (Nat.le_trans (unhide HL126) hgs.size)
              have HMn : Hid ((M ++ [y]).length = qq2 + 1) := hide (by rw [List.length_append, unhide HML]; rfl)
              have HRn : Hid ((bndP (repP fnP (m2 - (qq2 + 1)) l kt) fun xs j => (.ok ((M ++ [y]).map fnC ++ xs, j) : PR (List _))) = repP fnP m2 l kd) := hide (by
                rw [← unhide HRP, rep_ok (M.map fnC) (unhide HFD), show m2 - (qq2 + 1) = r by have := unhide HRE; omega, List.map_append, List.map_cons, List.map_nil, unhide HYC])
              have HRTn := hide ((unhide HRT126).keep hgs (unhide HAT) (fun x e => by injection e with e; have := unhide HLO; have := unhide HLO2; omega))
              clear q2 f2 hgs HC126 HB126 HD126 HL126 HRT126 HRP HML
              refine hK.out _ _ (unhide HCn).bx (fun hS => ?_)
              clear hK KK hS
              refine wpAnyH_done (by kernel_rfl) ?_ _
              go_wp2
              go_roundw
              case rel => exact ⟨qq2 + 1, _, kt, _, by omega, by go_num, HCn, HBn, HDn, HLn, HMn, HRn, HRTn⟩
              case measure => simp [intOf]; omega
        · have i1 : ¬ ((qq2 : Nat) : Int) < ((m2 : Nat) : Int) := by omega
          have hqm : qq2 = m2 := by omega
          have HRR2 : Hid (repP fnP m2 l kd = .ok (M.map fnC, kq)) := hide (by rw [← unhide HRP, hqm, Nat.sub_self]; exact rep_end _)
          obtain ⟨xa, xc, hv, hrow, hall, hnil, hcap⟩ := (unhide HD114).outC
          subst hv
          clear HRP
          obtain ⟨fa, HE1⟩ : ∃ t, t = xa := ⟨_, rfl⟩
          obtain ⟨fcc, HE2⟩ : ∃ t, t = xc := ⟨_, rfl⟩
          obtain ⟨F, HE3⟩ : ∃ t, t = M := ⟨_, rfl⟩
          obtain ⟨ke, HE4⟩ : ∃ t, t = kq := ⟨_, rfl⟩
          subst HE1 HE2 HE3 HE4
          have HNF : Hid (NeRow fnN fa F) := hide (unhide HD114).neOut
          have hFm : F.length = m2 := by rw [unhide HML]; exact hqm
          have HFL : Hid (F.length ≤ m2) := hide (by omega)
          have HCF := hide hcap
          clear HML
          have k0 := (unhide HC114).bx.c 0 rfl
          have k1 := (unhide HC114).bx.c 1 rfl
          have k2 := (unhide HB114).c 2 rfl
          have HK := hide (rhas (unhide HC114).rd m2)
          rw [← hFm] at HK
          have HFM := hide hFm
          clear hFm
          go_wp2_with fail
          refine (unhide HK).mono ?_
          rintro e W9 (⟨b, kh, v, hm, rfl, rfl, hr, hg⟩ | ⟨a, er, hm, rfl, hg⟩)
          rotate_left
          · exact ⟨rfl, Or.inr ⟨_, _, by rw [unhide HFM] at hm; rw [mdP, unhide HNM]; show bndP (coP 32 l k1') _ = _; rw [unhide HCO1]; show bndP (repP clP m1 l k3) _ = _; rw [unhide HRR1]; show bndP (coP 64 l kc) _ = _; rw [unhide HCO2]; show bndP (repP fnP m2 l kd) _ = _; rw [unhide HRR2]; show bndP (ctP m2 l ke) _ = _; rw [ct_hc]; show bndP (bndP (hcP m2 l ke) _) _ = _; rw [hm]; rfl, rfl, grown_trans (unhide HC114).gr hg⟩⟩
          rw [unhide HFM] at hm
          have HC9 := hide ((unhide HC114).step hr hg)
          have HB9 := hide (box_step (unhide HB114) hg (by have := (unhide HLO).1; omega))
          have hrow6 := hrow.far hg (RowAll.mono (fun b hb => by have := unhide HLO; have := unhide HLO2; omega) hall)
          have HRT9 := hide ((unhide HRT114).keep hg (unhide HAT) (fun x e => by injection e with e; have := unhide HLO; omega))
          obtain ⟨b3, HBS⟩ : ∃ b3, b3 = W9.heap.size := ⟨_, rfl⟩
          have HLO3 : Hid (b1 ≤ b2 ∧ b2 ≤ b3) := hide ⟨unhide HLO2, by have := unhide HL114; have := hg.size; omega⟩
          have HAF : Hid (RowAll fnN (fun b => b2 ≤ b ∧ b < b3) fa F) := hide (hrow6.span hall (by omega) fn_both)
          have HRF9 := hide hrow6
          have HL9 : Hid (b3 ≤ W9.heap.size) := hide (by omega)
          have HM3 : Hid (m2 ≤ 64) := HM2
          clear hr hg HK k0 k1 k2 HC114 HB114 HD114 HL114 HRT114 hrow hall hrow6 HBS hnil hcap
          cases b
          · have HMP : Hid (mdP l k = .ok (⟨nm, T.map clC, F.map fnC, []⟩, kh)) := hide (by rw [mdP, unhide HNM]; show bndP (coP 32 l k1') _ = _; rw [unhide HCO1]; show bndP (repP clP m1 l k3) _ = _; rw [unhide HRR1]; show bndP (coP 64 l kc) _ = _; rw [unhide HCO2]; show bndP (repP fnP m2 l kd) _ = _; rw [unhide HRR2]; show bndP (ctP m2 l ke) _ = _; rw [ct_hc]; show bndP (bndP (hcP m2 l ke) _) _ = _; rw [hm]; rfl)
            obtain ⟨C, HCe⟩ : ∃ C : List Bs, C = [] := ⟨_, rfl⟩
            obtain ⟨xa, hxa⟩ : ∃ t : Option Addr, t = none := ⟨_, rfl⟩
            obtain ⟨xc, hxc⟩ : ∃ t : Nat, t = 0 := ⟨_, rfl⟩
            have hCl : C.length = 0 := by rw [HCe]; rfl
            have HB10 : Hid (Bx W9 gc 26 #[.string ⟨nm.toArray⟩, .slice ta T.length tc, .slice fa F.length fcc, .slice xa C.length xc]) := hide (by rw [hxa, hCl, hxc]; exact unhide HB9)
            have HMP : Hid (mdP l k = .ok (⟨nm, T.map clC, F.map fnC, C.map bsC⟩, kh)) := hide (by rw [HCe]; exact unhide HMP)
            have HRC10 : Hid (RowAt bsN W9 xa C) := hide (by rw [HCe]; exact RowAt.nil _ _ _)
            have HAC : Hid (RowAll bsN (fun b => b3 ≤ b) xa C) := hide ⟨fun b off e hl => by omega, fun y hy => by rw [HCe] at hy; cases hy⟩
            have HNC : Hid (NeRow bsN xa C) := hide (fun b off e x hx => by rw [HCe] at hx; cases hx)
            have HCL : Hid (C.length ≤ 64) := hide (by omega)
            have HRT10 := HRT9
            have HRF10 := HRF9
            have HC10 := HC9
            clear HCe hxa hxc hCl HB9 HRT9 HRF9 HC9 hm HL9
            obtain ⟨wr, hwr⟩ : ∃ W, W = W9 := ⟨_, rfl⟩
            subst hwr
            have hgw := grown_row (W := wr) (w.heap.size + 1) #[.string ⟨nm.toArray⟩, .slice ta T.length tc, .slice fa F.length fcc, .slice xa C.length xc]
            have HZ : Hid (Bx (wr.setRow (w.heap.size + 1) #[.string ⟨nm.toArray⟩, .slice ta T.length tc, .slice fa F.length fcc, .slice xa C.length xc]) (w.heap.size + 1) 26 #[.string ⟨nm.toArray⟩, .slice ta T.length tc, .slice fa F.length fcc, .slice xa C.length xc]) := hide (setRow_heap _ _ _ _ _ _ (unhide HC10).out)
            have HMR : Hid (MdR (wr.setRow (w.heap.size + 1) #[.string ⟨nm.toArray⟩, .slice ta T.length tc, .slice fa F.length fcc, .slice xa C.length xc]) w.heap.size ⟨⟨nm.toArray⟩, ta, tc, T, fa, fcc, F, xa, xc, C⟩) := hide ⟨(unhide HRT10).keep hgw (unhide HAT) (fun x e => by injection e with e; have := unhide HLO; omega), (unhide HRF10).keep hgw (unhide HAF) (fun x e => by injection e with e; have := unhide HLO; have := unhide HLO2; omega), (unhide HRC10).far hgw (RowAll.mono (fun b hb => by have := unhide HLO; have := unhide HLO2; have := unhide HLO3; omega) (unhide HAC)), RowAll.mono (fun b hb => by have := unhide HLO; omega) (unhide HAT), RowAll.mono (fun b hb => by have := unhide HLO; have := unhide HLO2; omega) (unhide HAF), RowAll.mono (fun b hb => by have := unhide HLO; have := unhide HLO2; have := unhide HLO3; omega) (unhide HAC), unhide HCT, unhide HCF, by show T.length ≤ _; have := unhide HTL; have := unhide HM1; omega, by show F.length ≤ _; have := unhide HFL; have := unhide HM2; omega, by show C.length ≤ _; have := unhide HCL; omega, nm_small (unhide HNM), unhide HNF, unhide HNC, ⟨b3, RowAll.mono (fun b hb => by omega) (unhide HAF), unhide HAC⟩⟩
            have HRD := hide ((unhide HC10).rd.kept hgw (fun e => by injection e with e; omega) (fun e => by injection e with e; omega))
            have HGG := hide (grownBy_more (unhide HC10).gr hgw (fun x e => Or.inl (by injection e with e; omega)))
            have HO := hide (unhide HC10).out
            have HBB := HB10
            clear hgw HC10 HB10 HRT10 HRF10 HRC10
            go_wp2_with (first | (refine wpList_load_rowG (by kernel_rfl) 26 (.tmp 3) rfl gc rfl 26 #[.string ⟨nm.toArray⟩, .slice ta T.length tc, .slice fa F.length fcc, .slice xa C.length xc] (0, 0) _ (unhide HBB) Tryz.underlying26 rfl (by kernel_rfl) ?_) | (refine wpList_store_row rfl 26 _ _ rfl (w.heap.size + 1) #[.string ⟨nm.toArray⟩, .slice ta T.length tc, .slice fa F.length fcc, .slice xa C.length xc] rfl rfl 26 #[.string ⟨#[]⟩, .slice none 0 0, .slice none 0 0, .slice none 0 0] (unhide HO) (by kernel_rfl) rfl (by simp [Value.oneCell']) ?_))
            refine bodyPost_ret (results_bx rfl _ _ (w.heap.size + 1) _ rfl (run_loadVar_row _ _ 26 26 _ (0, 0) _ (unhide HZ) Tryz.underlying26 rfl (by kernel_rfl))) rfl (Or.inl ⟨_, _, _, unhide HMP, rfl, ⟨⟨⟨nm.toArray⟩, ta, tc, T, fa, fcc, F, xa, xc, C⟩, rfl, ?_, unhide HMR⟩, unhide HRD, unhide HGG⟩)
            show (⟨(⟨nm.toArray⟩ : ByteArray).toList, T.map clC, F.map fnC, C.map bsC⟩ : Mc) = _
            rw [ByteArray.toList_eq]
          · have HHC := hide hm
            clear hm
            have k2 := (unhide HB9).c 2 rfl
            rw [unhide HFM] at k2
            have HFM2 := HFM
            go_wp2_with fail
            go_loopw [39] (fun i wr => ∃ (q : Nat) (M : List Bs) (kq : Nat) (v : Value), q ≤ m2 ∧ i = .int .i64 (q : Int) ∧ Hid (C0 w wr p g cap l kq 26 #[.string ⟨#[]⟩, .slice none 0 0, .slice none 0 0, .slice none 0 0]) ∧ Hid (Bx wr gc 26 #[.string ⟨nm.toArray⟩, .slice ta T.length tc, .slice fa F.length fcc, v]) ∧ Hid (Bld bsN wr b3 v M) ∧ Hid (b3 ≤ wr.heap.size) ∧ Hid (M.length = q) ∧ Hid ((bndP (repP loP (m2 - q) l kq) fun xs j => (.ok (M.map bsC ++ xs, j) : PR (List _))) = repP loP m2 l kh) ∧ Hid (RowAt clN wr ta T) ∧ Hid (RowAt fnN wr fa F)) (fun i _ => m2 - (intOf i).toNat)
            case atStart => exact ⟨0, [], kh, .slice none 0 0, by omega, rfl, HC9, HB9, hide (Bld.nil _ _ _), HL9, hide rfl, hide (rep_start _), HRT9, HRF9⟩
            case round =>
              clear HC9 HB9 HL9 HRT9 HRF9
              obtain ⟨qq3, M, kq, v, hqq3, rfl, HC127, HB127, HD127, HL127, HML, HRP, HRT127, HRF127⟩ := hrel
              by_cases hlt : qq3 < m2
              · have i1 : ((qq3 : Nat) : Int) < ((m2 : Nat) : Int) := by omega
                obtain ⟨r, HRE⟩ : ∃ r, Hid (m2 - qq3 = r + 1) := ⟨m2 - qq3 - 1, hide (by omega)⟩
                obtain ⟨va, vc, rfl⟩ := (unhide HD127).slice
                have HVL : Hid (∀ x, (Value.slice va M.length vc).ownBlock = some x → b3 ≤ x) := hide (fun x e => (World.ownsRow.lt (unhide HD127).own x e).1)
                rw [unhide HRE] at HRP
                go_upto_region 13 with fail
                refine wp_region_held_drew (S := fun w' => Bx w' w.heap.size 112 #[.pointer (some ⟨p, 0, none⟩), .int .i64 (l.length : Int)]) mixed ((unhide HC127).below (Below.drew (Below.refl _ _))).bx (fun hS => ?_)
                have HC128 := hide ((unhide HC127).below (Below.drew (Below.refl _ _)))
                have HB128 := hide ((unhide HB127).below (Below.drew (Below.refl _ _)))
                have HD128 := hide ((unhide HD127).below (Below.drew (Below.refl _ _)))
                have HL128 : Hid (b3 ≤ wr.drew.heap.size) := hide (unhide HL127)
                have HRT128 := hide ((unhide HRT127).below (Below.drew (Below.refl _ _)))
                have HRF128 := hide ((unhide HRF127).below (Below.drew (Below.refl _ _)))
                clear HC127 HB127 HD127 HL127 HRT127 HRF127
                generalize wr.drew = Wd at hS HC128 HB128 HD128 HL128 HRT128 HRF128 ⊢
                refine wpAnyH_take (i := 0) (v := .pointer (some ⟨gc, 3, none⟩)) rfl (by kernel_rfl) (by kernel_rfl) (by kernel_rfl) (fun _ _ _ h => h) (Or.inl ⟨by rfl, fun W _ => by go_simp⟩) hS ?_
                go_simp
                refine wpAnyH_take (i := 2) (v := .agg #[.pointer (some ⟨p, 0, none⟩), .int .i64 (l.length : Int)]) rfl (by kernel_rfl) (by kernel_rfl) (by kernel_rfl) (fun _ _ _ h => h) (Or.inl ⟨by rfl, fun W h => by have h0 := h.c 0 rfl; have h1 := h.c 1 rfl; go_simp⟩) hS ?_
                go_simp
                refine wpAnyH_ready (rs := [1, 3]) (by kernel_rfl) (by simp) ?_
                refine AllReadyH.cons rfl (fun KK hK => ?_) ?_
                · have q2 := (unhide HB128).c 3 rfl
                  go_simp
                  refine hK.out _ _ (unhide HC128).bx (fun hS => ?_)
                  clear hK KK q2
                  refine wpAnyH_ready (rs := [3]) (by kernel_rfl) (by simp) ?_
                  refine AllReadyH.cons rfl (fun KK hK => ?_) AllReadyH.nil
                  go_simp
                  have HK := hide (rlong (unhide HC128).rd)
                  refine (unhide HK).mono ?_
                  rintro e W130 (⟨z, kt, v, hm, rfl, ho, hr, hg⟩ | ⟨a, er, hm, rfl, hg⟩)
                  rotate_left
                  · exact ⟨rfl, Or.inr ⟨_, _, by rw [mdP, unhide HNM]; show bndP (coP 32 l k1') _ = _; rw [unhide HCO1]; show bndP (repP clP m1 l k3) _ = _; rw [unhide HRR1]; show bndP (coP 64 l kc) _ = _; rw [unhide HCO2]; show bndP (repP fnP m2 l kd) _ = _; rw [unhide HRR2]; show bndP (ctP m2 l ke) _ = _; rw [ct_hc]; show bndP (bndP (hcP m2 l ke) _) _ = _; rw [unhide HHC]; show bndP (repP loP m2 l kh) _ = _; rw [← unhide HRP, rep_no _ hm]; rfl, rfl, grown_trans (unhide HC128).gr hg⟩⟩
                  obtain ⟨ca, cc, rfl, hba, hbl, hbn⟩ := own_out ho
                  have hzl := lo_len hm
                  obtain ⟨y, hy1, hy2, hy3⟩ : ∃ y : Bs, y.ca = ca ∧ y.cc = cc ∧ y.cd = z := ⟨⟨ca, cc, z⟩, rfl, rfl, rfl⟩
                  subst hy1 hy2 hy3
                  have hyc : bsC y = y.cd := rfl
                  have hyo : bsN.ok W130 y := ⟨hba, hbn, by omega, own_pl ho⟩
                  have hya : bsN.all (fun b => Wd.heap.size ≤ b) y := hbl
                  clear ho hba hbl hbn hzl
                  have HYC := hide hyc
                  have HYO := hide hyo
                  have HYL : Hid (bsN.all (fun b => b3 ≤ b) y) := hide (bsN.mono (fun b hb => Nat.le_trans (unhide HL128) hb) hya)
                  have HYN : Hid (∀ x, (Value.slice va M.length vc).ownBlock = some x → bsN.all (fun b => b ≠ x) y) := hide (fun x e => bsN.mono (fun b hb => by have := (World.ownsRow.lt (unhide HD128).own x e).2; omega) hya)
                  have HC130 := hide ((unhide HC128).step hr hg)
                  have HB130 := hide (box_step (unhide HB128) hg (by have := (unhide HLO).1; omega))
                  have HD130 := hide ((unhide HD128).box hg (by have := (unhide HLO); have := unhide HLO3; omega))
                  have HL130 : Hid (b3 ≤ W130.heap.size) := hide (Nat.le_trans (unhide HL128) hg.size)
                  have HFD := hide hm
                  have HRT130 := hide ((unhide HRT128).keep hg (unhide HAT) (fun x e => by injection e with e; have := unhide HLO; have := unhide HLO3; omega))
                  have HRF130 := hide ((unhide HRF128).keep hg (unhide HAF) (fun x e => by injection e with e; have := unhide HLO; have := unhide HLO3; omega))
                  refine hK.out _ _ (unhide HC130).bx (fun hS => ?_)
                  clear hK KK HK hm hr hg hyc hyo hya HC128 HB128 HD128 HL128 HRT128 HRF128
                  refine wpAnyH_ready (rs := [4]) (by kernel_rfl) (by simp) ?_
                  refine AllReadyH.cons rfl (fun KK hK => ?_) AllReadyH.nil
                  go_simp
                  have HA131 : Hid (C0 w (W130.alloc (.cells #[.slice y.ca y.cd.length y.cc] 28)) p g cap l kt 26 #[.string ⟨#[]⟩, .slice none 0 0, .slice none 0 0, .slice none 0 0]) := hide ((unhide HC130).below ((Below.refl _ _).alloc (Nat.le_refl _) _))
                  have HBA131 := hide ((unhide HB130).below ((Below.refl W130.heap.size W130).alloc (Nat.le_refl _) (.cells #[.slice y.ca y.cd.length y.cc] 28)))
                  refine hK.out _ _ (unhide HA131).bx (fun hS => ?_)
                  clear hK KK
                  refine wpAnyH_ready (rs := [5]) (by kernel_rfl) (by simp) ?_
                  refine AllReadyH.cons rfl (fun KK hK => ?_) AllReadyH.nil
                  refine step_append_lies _ (by rfl) _ _ 24 (by rfl) b3 28 in3 _ 1 24 Tryz.underlying24 hi3 hz30 hz31 hz32 rfl (by omega) (.slice va M.length vc) M.length (vals bsN M) (by rfl) (rowBelow (unhide HD130).own ((Below.refl _ _).alloc (Nat.le_refl _) _)) ⟨W130.heap.size, 0, none⟩ 1 1 (bsN.cells y) (by rfl) (by rfl) (World.news_of_block (cs := #[.slice y.ca y.cd.length y.cc]) (t := 28) (fr := (0, 0)) (heap_alloc_new W130 _)) (fun u hu => by simp [bsN] at hu; rcases hu with rfl <;> rfl) (by omega) (by have := unhide HML; have := unhide HM3; unfold maxLen; omega) (by have := unhide HML; have := unhide HM3; omega) (by rw [World.size_alloc]; have := unhide HL130; omega) (W130.heap.size + 1) (by simp) ?_
                  intro g3 cap3 W132 hown hgrow hat hlt3
                  have al : Below W130.heap.size W130 (W130.alloc (.cells #[.slice y.ca y.cd.length y.cc] 28)) := (Below.refl _ _).alloc (Nat.le_refl _) _
                  have HD132 : Hid (Bld bsN W132 b3 (.slice (some ⟨g3, 0, none⟩) (M.length + 1) cap3) (M ++ [y])) := hide ((unhide HD130).snoc (y := y) (unhide HYO) (unhide HYL) (unhide HYN) hown hgrow hat)
                  have HC132 := hide (((unhide HC130).below al).row hgrow (fun x e => by have := unhide HVL x e; have := unhide HLO; have := unhide HLO3; omega) hgl)
                  have HB132 := hide (((unhide HB130).below al).grown hgrow (fun e => by have := unhide HVL gc e; have := unhide HLO; have := unhide HLO3; omega))
                  have HL132 : Hid (b3 ≤ W132.heap.size) := hide (by have := hgrow.size; rw [World.size_alloc] at this; have := unhide HL130; omega)
                  have HRT132 := hide (((unhide HRT130).below al).keep hgrow (unhide HAT) (fun x e => by have := unhide HVL x e; have := unhide HLO; have := unhide HLO3; omega))
                  have HRF132 := hide (((unhide HRF130).below al).keep hgrow (unhide HAF) (fun x e => by have := unhide HVL x e; have := unhide HLO; have := unhide HLO3; omega))
                  refine hK.out _ _ (unhide HC132).bx (fun hS => ?_)
                  clear hK KK hown hgrow hat hlt3 al HC130 HB130 HD130 HL130 HRT130 HRF130
                  refine wpAnyH_take (i := 6) (v := .pointer (some ⟨gc, 3, none⟩)) rfl (by kernel_rfl) (by kernel_rfl) (by kernel_rfl) (fun _ _ _ h => h) (Or.inl ⟨by rfl, fun W _ => by go_simp⟩) hS ?_
                  go_simp
                  refine wpAnyH_ready (rs := [7]) (by kernel_rfl) (by simp) ?_
                  refine AllReadyH.cons rfl (fun KK hK => ?_) AllReadyH.nil
                  have q2 := (unhide HB132).c 3 rfl
                  have f2 := (unhide HB132).f 3
                  go_simp
                  have hgs := grownBy_set W132 gc 3 (.slice (some ⟨g3, 0, none⟩) (M.length + 1) cap3)
                  have HCn := hide ((unhide HC132).own hgs (unhide HLO).1 (by have := (unhide HLO).1; omega))
                  have HBn : Hid (Bx (W132.setCell ⟨gc, 3, none⟩ (.slice (some ⟨g3, 0, none⟩) (M.length + 1) cap3)) gc 26 #[.string ⟨nm.toArray⟩, .slice ta T.length tc, .slice fa F.length fcc, .slice (some ⟨g3, 0, none⟩) (M.length + 1) cap3]) := hide ((unhide HB132).set 3 _ rfl)
                  have HDn := hide ((unhide HD132).box hgs (by have := unhide HLO; have := unhide HLO3; omega))
                  have HLn : Hid (b3 ≤ (W132.setCell ⟨gc, 3, none⟩ (.slice (some ⟨g3, 0, none⟩) (M.length + 1) cap3)).heap.size) := hide (Nat.le_trans (unhide HL132) hgs.size)
                  have HMn : Hid ((M ++ [y]).length = qq3 + 1) := hide (by rw [List.length_append, unhide HML]; rfl)
                  have HRn : Hid ((bndP (repP loP (m2 - (qq3 + 1)) l kt) fun xs j => (.ok ((M ++ [y]).map bsC ++ xs, j) : PR (List _))) = repP loP m2 l kh) := hide (by
                    rw [← unhide HRP, rep_ok (M.map bsC) (unhide HFD), show m2 - (qq3 + 1) = r by have := unhide HRE; omega, List.map_append, List.map_cons, List.map_nil, unhide HYC])
                  have HRTn := hide ((unhide HRT132).keep hgs (unhide HAT) (fun x e => by injection e with e; have := unhide HLO; have := unhide HLO3; omega))
                  have HRFn := hide ((unhide HRF132).keep hgs (unhide HAF) (fun x e => by injection e with e; have := unhide HLO; have := unhide HLO3; omega))
                  clear q2 f2 hgs HC132 HB132 HD132 HL132 HRT132 HRF132 HRP HML
                  refine hK.out _ _ (unhide HCn).bx (fun hS => ?_)
                  clear hK KK hS
                  refine wpAnyH_done (by kernel_rfl) ?_ _
                  go_wp2
                  go_roundw
                  case rel => exact ⟨qq3 + 1, _, kt, _, by omega, by go_num, HCn, HBn, HDn, HLn, HMn, HRn, HRTn, HRFn⟩
                  case measure => simp [intOf]; omega
                · refine AllReadyH.cons rfl (fun KK hK => ?_) AllReadyH.nil
                  go_simp
                  have HK := hide (rlong (unhide HC128).rd)
                  refine (unhide HK).mono ?_
                  rintro e W133 (⟨z, kt, v, hm, rfl, ho, hr, hg⟩ | ⟨a, er, hm, rfl, hg⟩)
                  rotate_left
                  · exact ⟨rfl, Or.inr ⟨_, _, by rw [mdP, unhide HNM]; show bndP (coP 32 l k1') _ = _; rw [unhide HCO1]; show bndP (repP clP m1 l k3) _ = _; rw [unhide HRR1]; show bndP (coP 64 l kc) _ = _; rw [unhide HCO2]; show bndP (repP fnP m2 l kd) _ = _; rw [unhide HRR2]; show bndP (ctP m2 l ke) _ = _; rw [ct_hc]; show bndP (bndP (hcP m2 l ke) _) _ = _; rw [unhide HHC]; show bndP (repP loP m2 l kh) _ = _; rw [← unhide HRP, rep_no _ hm]; rfl, rfl, grown_trans (unhide HC128).gr hg⟩⟩
                  obtain ⟨ca, cc, rfl, hba, hbl, hbn⟩ := own_out ho
                  have hzl := lo_len hm
                  obtain ⟨y, hy1, hy2, hy3⟩ : ∃ y : Bs, y.ca = ca ∧ y.cc = cc ∧ y.cd = z := ⟨⟨ca, cc, z⟩, rfl, rfl, rfl⟩
                  subst hy1 hy2 hy3
                  have hyc : bsC y = y.cd := rfl
                  have hyo : bsN.ok W133 y := ⟨hba, hbn, by omega, own_pl ho⟩
                  have hya : bsN.all (fun b => Wd.heap.size ≤ b) y := hbl
                  clear ho hba hbl hbn hzl
                  have HYC := hide hyc
                  have HYO := hide hyo
                  have HYL : Hid (bsN.all (fun b => b3 ≤ b) y) := hide (bsN.mono (fun b hb => Nat.le_trans (unhide HL128) hb) hya)
                  have HYN : Hid (∀ x, (Value.slice va M.length vc).ownBlock = some x → bsN.all (fun b => b ≠ x) y) := hide (fun x e => bsN.mono (fun b hb => by have := (World.ownsRow.lt (unhide HD128).own x e).2; omega) hya)
                  have HC133 := hide ((unhide HC128).step hr hg)
                  have HB133 := hide (box_step (unhide HB128) hg (by have := (unhide HLO).1; omega))
                  have HD133 := hide ((unhide HD128).box hg (by have := (unhide HLO); have := unhide HLO3; omega))
                  have HL133 : Hid (b3 ≤ W133.heap.size) := hide (Nat.le_trans (unhide HL128) hg.size)
                  have HFD := hide hm
                  have HRT133 := hide ((unhide HRT128).keep hg (unhide HAT) (fun x e => by injection e with e; have := unhide HLO; have := unhide HLO3; omega))
                  have HRF133 := hide ((unhide HRF128).keep hg (unhide HAF) (fun x e => by injection e with e; have := unhide HLO; have := unhide HLO3; omega))
                  refine hK.out _ _ (unhide HC133).bx (fun hS => ?_)
                  clear hK KK HK hm hr hg hyc hyo hya HC128 HB128 HD128 HL128 HRT128 HRF128
                  refine wpAnyH_ready (rs := [1, 4]) (by kernel_rfl) (by simp) ?_
                  refine AllReadyH.cons rfl (fun KK hK => ?_) ?_
                  · have q2 := (unhide HB133).c 3 rfl
                    go_simp
                    refine hK.out _ _ (unhide HC133).bx (fun hS => ?_)
                    clear hK KK q2
                    refine wpAnyH_ready (rs := [4]) (by kernel_rfl) (by simp) ?_
                    refine AllReadyH.cons rfl (fun KK hK => ?_) AllReadyH.nil
                    go_simp
                    have HA135 : Hid (C0 w (W133.alloc (.cells #[.slice y.ca y.cd.length y.cc] 28)) p g cap l kt 26 #[.string ⟨#[]⟩, .slice none 0 0, .slice none 0 0, .slice none 0 0]) := hide ((unhide HC133).below ((Below.refl _ _).alloc (Nat.le_refl _) _))
                    have HBA135 := hide ((unhide HB133).below ((Below.refl W133.heap.size W133).alloc (Nat.le_refl _) (.cells #[.slice y.ca y.cd.length y.cc] 28)))
                    refine hK.out _ _ (unhide HA135).bx (fun hS => ?_)
                    clear hK KK
                    refine wpAnyH_ready (rs := [5]) (by kernel_rfl) (by simp) ?_
                    refine AllReadyH.cons rfl (fun KK hK => ?_) AllReadyH.nil
                    refine step_append_lies _ (by rfl) _ _ 24 (by rfl) b3 28 in3 _ 1 24 Tryz.underlying24 hi3 hz30 hz31 hz32 rfl (by omega) (.slice va M.length vc) M.length (vals bsN M) (by rfl) (rowBelow (unhide HD133).own ((Below.refl _ _).alloc (Nat.le_refl _) _)) ⟨W133.heap.size, 0, none⟩ 1 1 (bsN.cells y) (by rfl) (by rfl) (World.news_of_block (cs := #[.slice y.ca y.cd.length y.cc]) (t := 28) (fr := (0, 0)) (heap_alloc_new W133 _)) (fun u hu => by simp [bsN] at hu; rcases hu with rfl <;> rfl) (by omega) (by have := unhide HML; have := unhide HM3; unfold maxLen; omega) (by have := unhide HML; have := unhide HM3; omega) (by rw [World.size_alloc]; have := unhide HL133; omega) (W133.heap.size + 1) (by simp) ?_
                    intro g3 cap3 W136 hown hgrow hat hlt3
                    have al : Below W133.heap.size W133 (W133.alloc (.cells #[.slice y.ca y.cd.length y.cc] 28)) := (Below.refl _ _).alloc (Nat.le_refl _) _
                    have HD136 : Hid (Bld bsN W136 b3 (.slice (some ⟨g3, 0, none⟩) (M.length + 1) cap3) (M ++ [y])) := hide ((unhide HD133).snoc (y := y) (unhide HYO) (unhide HYL) (unhide HYN) hown hgrow hat)
                    have HC136 := hide (((unhide HC133).below al).row hgrow (fun x e => by have := unhide HVL x e; have := unhide HLO; have := unhide HLO3; omega) hgl)
                    have HB136 := hide (((unhide HB133).below al).grown hgrow (fun e => by have := unhide HVL gc e; have := unhide HLO; have := unhide HLO3; omega))
                    have HL136 : Hid (b3 ≤ W136.heap.size) := hide (by have := hgrow.size; rw [World.size_alloc] at this; have := unhide HL133; omega)
                    have HRT136 := hide (((unhide HRT133).below al).keep hgrow (unhide HAT) (fun x e => by have := unhide HVL x e; have := unhide HLO; have := unhide HLO3; omega))
                    have HRF136 := hide (((unhide HRF133).below al).keep hgrow (unhide HAF) (fun x e => by have := unhide HVL x e; have := unhide HLO; have := unhide HLO3; omega))
                    refine hK.out _ _ (unhide HC136).bx (fun hS => ?_)
                    clear hK KK hown hgrow hat hlt3 al HC133 HB133 HD133 HL133 HRT133 HRF133
                    refine wpAnyH_take (i := 6) (v := .pointer (some ⟨gc, 3, none⟩)) rfl (by kernel_rfl) (by kernel_rfl) (by kernel_rfl) (fun _ _ _ h => h) (Or.inl ⟨by rfl, fun W _ => by go_simp⟩) hS ?_
                    go_simp
                    refine wpAnyH_ready (rs := [7]) (by kernel_rfl) (by simp) ?_
                    refine AllReadyH.cons rfl (fun KK hK => ?_) AllReadyH.nil
                    have q2 := (unhide HB136).c 3 rfl
                    have f2 := (unhide HB136).f 3
                    go_simp
                    have hgs := grownBy_set W136 gc 3 (.slice (some ⟨g3, 0, none⟩) (M.length + 1) cap3)
                    have HCn := hide ((unhide HC136).own hgs (unhide HLO).1 (by have := (unhide HLO).1; omega))
                    have HBn : Hid (Bx (W136.setCell ⟨gc, 3, none⟩ (.slice (some ⟨g3, 0, none⟩) (M.length + 1) cap3)) gc 26 #[.string ⟨nm.toArray⟩, .slice ta T.length tc, .slice fa F.length fcc, .slice (some ⟨g3, 0, none⟩) (M.length + 1) cap3]) := hide ((unhide HB136).set 3 _ rfl)
                    have HDn := hide ((unhide HD136).box hgs (by have := unhide HLO; have := unhide HLO3; omega))
                    have HLn : Hid (b3 ≤ (W136.setCell ⟨gc, 3, none⟩ (.slice (some ⟨g3, 0, none⟩) (M.length + 1) cap3)).heap.size) := hide (Nat.le_trans (unhide HL136) hgs.size)
                    have HMn : Hid ((M ++ [y]).length = qq3 + 1) := hide (by rw [List.length_append, unhide HML]; rfl)
                    have HRn : Hid ((bndP (repP loP (m2 - (qq3 + 1)) l kt) fun xs j => (.ok ((M ++ [y]).map bsC ++ xs, j) : PR (List _))) = repP loP m2 l kh) := hide (by
                      rw [← unhide HRP, rep_ok (M.map bsC) (unhide HFD), show m2 - (qq3 + 1) = r by have := unhide HRE; omega, List.map_append, List.map_cons, List.map_nil, unhide HYC])
                    have HRTn := hide ((unhide HRT136).keep hgs (unhide HAT) (fun x e => by injection e with e; have := unhide HLO; have := unhide HLO3; omega))
                    have HRFn := hide ((unhide HRF136).keep hgs (unhide HAF) (fun x e => by injection e with e; have := unhide HLO; have := unhide HLO3; omega))
                    clear q2 f2 hgs HC136 HB136 HD136 HL136 HRT136 HRF136 HRP HML
                    refine hK.out _ _ (unhide HCn).bx (fun hS => ?_)
                    clear hK KK hS
                    refine wpAnyH_done (by kernel_rfl) ?_ _
                    go_wp2
                    go_roundw
                    case rel => exact ⟨qq3 + 1, _, kt, _, by omega, by go_num, HCn, HBn, HDn, HLn, HMn, HRn, HRTn, HRFn⟩
                    case measure => simp [intOf]; omega
                  · refine AllReadyH.cons rfl (fun KK hK => ?_) AllReadyH.nil
                    go_simp
                    have HA137 : Hid (C0 w (W133.alloc (.cells #[.slice y.ca y.cd.length y.cc] 28)) p g cap l kt 26 #[.string ⟨#[]⟩, .slice none 0 0, .slice none 0 0, .slice none 0 0]) := hide ((unhide HC133).below ((Below.refl _ _).alloc (Nat.le_refl _) _))
                    have HBA137 := hide ((unhide HB133).below ((Below.refl W133.heap.size W133).alloc (Nat.le_refl _) (.cells #[.slice y.ca y.cd.length y.cc] 28)))
                    refine hK.out _ _ (unhide HA137).bx (fun hS => ?_)
                    clear hK KK
                    refine wpAnyH_ready (rs := [1]) (by kernel_rfl) (by simp) ?_
                    refine AllReadyH.cons rfl (fun KK hK => ?_) AllReadyH.nil
                    have q2 := (unhide HBA137).c 3 rfl
                    go_simp
                    refine hK.out _ _ (unhide HA137).bx (fun hS => ?_)
                    clear hK KK q2
                    refine wpAnyH_ready (rs := [5]) (by kernel_rfl) (by simp) ?_
                    refine AllReadyH.cons rfl (fun KK hK => ?_) AllReadyH.nil
                    refine step_append_lies _ (by rfl) _ _ 24 (by rfl) b3 28 in3 _ 1 24 Tryz.underlying24 hi3 hz30 hz31 hz32 rfl (by omega) (.slice va M.length vc) M.length (vals bsN M) (by rfl) (rowBelow (unhide HD133).own ((Below.refl _ _).alloc (Nat.le_refl _) _)) ⟨W133.heap.size, 0, none⟩ 1 1 (bsN.cells y) (by rfl) (by rfl) (World.news_of_block (cs := #[.slice y.ca y.cd.length y.cc]) (t := 28) (fr := (0, 0)) (heap_alloc_new W133 _)) (fun u hu => by simp [bsN] at hu; rcases hu with rfl <;> rfl) (by omega) (by have := unhide HML; have := unhide HM3; unfold maxLen; omega) (by have := unhide HML; have := unhide HM3; omega) (by rw [World.size_alloc]; have := unhide HL133; omega) (W133.heap.size + 1) (by simp) ?_
                    intro g3 cap3 W139 hown hgrow hat hlt3
                    have al : Below W133.heap.size W133 (W133.alloc (.cells #[.slice y.ca y.cd.length y.cc] 28)) := (Below.refl _ _).alloc (Nat.le_refl _) _
                    have HD139 : Hid (Bld bsN W139 b3 (.slice (some ⟨g3, 0, none⟩) (M.length + 1) cap3) (M ++ [y])) := hide ((unhide HD133).snoc (y := y) (unhide HYO) (unhide HYL) (unhide HYN) hown hgrow hat)
                    have HC139 := hide (((unhide HC133).below al).row hgrow (fun x e => by have := unhide HVL x e; have := unhide HLO; have := unhide HLO3; omega) hgl)
                    have HB139 := hide (((unhide HB133).below al).grown hgrow (fun e => by have := unhide HVL gc e; have := unhide HLO; have := unhide HLO3; omega))
                    have HL139 : Hid (b3 ≤ W139.heap.size) := hide (by have := hgrow.size; rw [World.size_alloc] at this; have := unhide HL133; omega)
                    have HRT139 := hide (((unhide HRT133).below al).keep hgrow (unhide HAT) (fun x e => by have := unhide HVL x e; have := unhide HLO; have := unhide HLO3; omega))
                    have HRF139 := hide (((unhide HRF133).below al).keep hgrow (unhide HAF) (fun x e => by have := unhide HVL x e; have := unhide HLO; have := unhide HLO3; omega))
                    refine hK.out _ _ (unhide HC139).bx (fun hS => ?_)
                    clear hK KK hown hgrow hat hlt3 al HC133 HB133 HD133 HL133 HRT133 HRF133
                    refine wpAnyH_take (i := 6) (v := .pointer (some ⟨gc, 3, none⟩)) rfl (by kernel_rfl) (by kernel_rfl) (by kernel_rfl) (fun _ _ _ h => h) (Or.inl ⟨by rfl, fun W _ => by go_simp⟩) hS ?_
                    go_simp
                    refine wpAnyH_ready (rs := [7]) (by kernel_rfl) (by simp) ?_
                    refine AllReadyH.cons rfl (fun KK hK => ?_) AllReadyH.nil
                    have q2 := (unhide HB139).c 3 rfl
                    have f2 := (unhide HB139).f 3
                    go_simp
                    have hgs := grownBy_set W139 gc 3 (.slice (some ⟨g3, 0, none⟩) (M.length + 1) cap3)
                    have HCn := hide ((unhide HC139).own hgs (unhide HLO).1 (by have := (unhide HLO).1; omega))
                    have HBn : Hid (Bx (W139.setCell ⟨gc, 3, none⟩ (.slice (some ⟨g3, 0, none⟩) (M.length + 1) cap3)) gc 26 #[.string ⟨nm.toArray⟩, .slice ta T.length tc, .slice fa F.length fcc, .slice (some ⟨g3, 0, none⟩) (M.length + 1) cap3]) := hide ((unhide HB139).set 3 _ rfl)
                    have HDn := hide ((unhide HD139).box hgs (by have := unhide HLO; have := unhide HLO3; omega))
                    have HLn : Hid (b3 ≤ (W139.setCell ⟨gc, 3, none⟩ (.slice (some ⟨g3, 0, none⟩) (M.length + 1) cap3)).heap.size) := hide (Nat.le_trans (unhide HL139) hgs.size)
                    have HMn : Hid ((M ++ [y]).length = qq3 + 1) := hide (by rw [List.length_append, unhide HML]; rfl)
                    have HRn : Hid ((bndP (repP loP (m2 - (qq3 + 1)) l kt) fun xs j => (.ok ((M ++ [y]).map bsC ++ xs, j) : PR (List _))) = repP loP m2 l kh) := hide (by
                      rw [← unhide HRP, rep_ok (M.map bsC) (unhide HFD), show m2 - (qq3 + 1) = r by have := unhide HRE; omega, List.map_append, List.map_cons, List.map_nil, unhide HYC])
                    have HRTn := hide ((unhide HRT139).keep hgs (unhide HAT) (fun x e => by injection e with e; have := unhide HLO; have := unhide HLO3; omega))
                    have HRFn := hide ((unhide HRF139).keep hgs (unhide HAF) (fun x e => by injection e with e; have := unhide HLO; have := unhide HLO3; omega))
                    clear q2 f2 hgs HC139 HB139 HD139 HL139 HRT139 HRF139 HRP HML
                    refine hK.out _ _ (unhide HCn).bx (fun hS => ?_)
                    clear hK KK hS
                    refine wpAnyH_done (by kernel_rfl) ?_ _
                    go_wp2
                    go_roundw
                    case rel => exact ⟨qq3 + 1, _, kt, _, by omega, by go_num, HCn, HBn, HDn, HLn, HMn, HRn, HRTn, HRFn⟩
                    case measure => simp [intOf]; omega
              · have i1 : ¬ ((qq3 : Nat) : Int) < ((m2 : Nat) : Int) := by omega
                have hqm : qq3 = m2 := by omega
                have HRR3 : Hid (repP loP m2 l kh = .ok (M.map bsC, kq)) := hide (by rw [← unhide HRP, hqm, Nat.sub_self]; exact rep_end _)
                obtain ⟨xa, xc, hv, hrow, hall, hnil, hcap⟩ := (unhide HD127).outC
                subst hv
                clear HRP
                obtain ⟨C, HE3⟩ : ∃ t, t = M := ⟨_, rfl⟩
                subst HE3
                have HMP : Hid (mdP l k = .ok (⟨nm, T.map clC, F.map fnC, C.map bsC⟩, kq)) := hide (by rw [mdP, unhide HNM]; show bndP (coP 32 l k1') _ = _; rw [unhide HCO1]; show bndP (repP clP m1 l k3) _ = _; rw [unhide HRR1]; show bndP (coP 64 l kc) _ = _; rw [unhide HCO2]; show bndP (repP fnP m2 l kd) _ = _; rw [unhide HRR2]; show bndP (ctP m2 l ke) _ = _; rw [ct_hc]; show bndP (bndP (hcP m2 l ke) _) _ = _; rw [unhide HHC]; show bndP (repP loP m2 l kh) _ = _; rw [unhide HRR3]; rfl)
                have HNC : Hid (NeRow bsN xa C) := hide (unhide HD127).neOut
                have HRC127 := hide hrow
                have HAC := hide hall
                have HCL : Hid (C.length ≤ 64) := hide (by have := unhide HML; have := unhide HM2; omega)
                clear hrow hall hnil hcap HD127 HL127 HML
                have hgw := grown_row (W := wr) (w.heap.size + 1) #[.string ⟨nm.toArray⟩, .slice ta T.length tc, .slice fa F.length fcc, .slice xa C.length xc]
                have HZ : Hid (Bx (wr.setRow (w.heap.size + 1) #[.string ⟨nm.toArray⟩, .slice ta T.length tc, .slice fa F.length fcc, .slice xa C.length xc]) (w.heap.size + 1) 26 #[.string ⟨nm.toArray⟩, .slice ta T.length tc, .slice fa F.length fcc, .slice xa C.length xc]) := hide (setRow_heap _ _ _ _ _ _ (unhide HC127).out)
                have HMR : Hid (MdR (wr.setRow (w.heap.size + 1) #[.string ⟨nm.toArray⟩, .slice ta T.length tc, .slice fa F.length fcc, .slice xa C.length xc]) w.heap.size ⟨⟨nm.toArray⟩, ta, tc, T, fa, fcc, F, xa, xc, C⟩) := hide ⟨(unhide HRT127).keep hgw (unhide HAT) (fun x e => by injection e with e; have := unhide HLO; omega), (unhide HRF127).keep hgw (unhide HAF) (fun x e => by injection e with e; have := unhide HLO; have := unhide HLO2; omega), (unhide HRC127).far hgw (RowAll.mono (fun b hb => by have := unhide HLO; have := unhide HLO2; have := unhide HLO3; omega) (unhide HAC)), RowAll.mono (fun b hb => by have := unhide HLO; omega) (unhide HAT), RowAll.mono (fun b hb => by have := unhide HLO; have := unhide HLO2; omega) (unhide HAF), RowAll.mono (fun b hb => by have := unhide HLO; have := unhide HLO2; have := unhide HLO3; omega) (unhide HAC), unhide HCT, unhide HCF, by show T.length ≤ _; have := unhide HTL; have := unhide HM1; omega, by show F.length ≤ _; have := unhide HFL; have := unhide HM2; omega, by show C.length ≤ _; have := unhide HCL; omega, nm_small (unhide HNM), unhide HNF, unhide HNC, ⟨b3, RowAll.mono (fun b hb => by omega) (unhide HAF), unhide HAC⟩⟩
                have HRD := hide ((unhide HC127).rd.kept hgw (fun e => by injection e with e; omega) (fun e => by injection e with e; omega))
                have HGG := hide (grownBy_more (unhide HC127).gr hgw (fun x e => Or.inl (by injection e with e; omega)))
                have HO := hide (unhide HC127).out
                have HBB := HB127
                clear hgw HC127 HB127 HRT127 HRF127 HRC127
                go_wp2_with (first | (refine wpList_load_rowG (by kernel_rfl) 26 (.tmp 3) rfl gc rfl 26 #[.string ⟨nm.toArray⟩, .slice ta T.length tc, .slice fa F.length fcc, .slice xa C.length xc] (0, 0) _ (unhide HBB) Tryz.underlying26 rfl (by kernel_rfl) ?_) | (refine wpList_store_row rfl 26 _ _ rfl (w.heap.size + 1) #[.string ⟨nm.toArray⟩, .slice ta T.length tc, .slice fa F.length fcc, .slice xa C.length xc] rfl rfl 26 #[.string ⟨#[]⟩, .slice none 0 0, .slice none 0 0, .slice none 0 0] (unhide HO) (by kernel_rfl) rfl (by simp [Value.oneCell']) ?_))
                refine bodyPost_ret (results_bx rfl _ _ (w.heap.size + 1) _ rfl (run_loadVar_row _ _ 26 26 _ (0, 0) _ (unhide HZ) Tryz.underlying26 rfl (by kernel_rfl))) rfl (Or.inl ⟨_, _, _, unhide HMP, rfl, ⟨⟨⟨nm.toArray⟩, ta, tc, T, fa, fcc, F, xa, xc, C⟩, rfl, ?_, unhide HMR⟩, unhide HRD, unhide HGG⟩)
                show (⟨(⟨nm.toArray⟩ : ByteArray).toList, T.map clC, F.map fnC, C.map bsC⟩ : Mc) = _
                rw [ByteArray.toList_eq]
end Go.Proofs.YtibgfdjopikafaaGreatDoor
