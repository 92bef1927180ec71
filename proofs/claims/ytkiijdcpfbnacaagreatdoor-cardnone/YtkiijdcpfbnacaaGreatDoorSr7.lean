/-
  The contract of the store's keep: an entry stands in the place of that of its name, or among the others.
-/
import Derived.Test.YtkiijdcpfbnacaaGreatDoorSr6
namespace Go.Proofs.YtkiijdcpfbnacaaGreatDoor
open Go.RowKit
set_option maxRecDepth 20000

theorem set_row {K : List Ke} {R : List Value} (e : Ke) {i : Nat} (ht : R.take (K.length * 3) = keV K) (hi : i < K.length) : (spl R (i * 3) (keC e)).take (K.length * 3) = keV (putN i true K e) := by
  have hR := parts ht i
  generalize R.drop (K.length * 3) = C at hR
  have h1 : keV (K.drop i) = (keV (K.drop i)).take 3 ++ keV (K.drop (i + 1)) := by
    rw [show keV (K.drop (i + 1)) = (keV (K.drop i)).drop 3 from by rw [keV_drop, keV_drop, List.drop_drop]; congr 1; omega, List.take_append_drop]
  have h2 : ((keV (K.drop i)).take 3).length = (keC e).length := by rw [List.length_take, kd_len]; simp [keC]; omega
  rw [hR, h1, List.append_assoc, spl_at (kt_len K (by omega)) h2, ← List.append_assoc, ← List.append_assoc, tk_l (by
    rw [List.length_append, List.length_append, kt_len K (by omega : i ≤ K.length), kd_len]
    simp [keC]; omega)]
  unfold putN
  rw [keV_app, List.append_assoc]
  rfl
set_option maxHeartbeats 8000000 in
theorem keep_anyS {w : World} {B g : Nat} {iv kv : Value} {I : List UInt8} {K : List Ke} (x : Ke) (H : IsSt w B g iv kv I K) (hok : Asc (kNm K)) (hlen : K.length ≤ 4096) :
    Calls Tryz.prog 126 #[.pointer (some ⟨g, 0, none⟩), .agg #[.string x.nm, .int .i64 (x.fr : Int), .int .i64 (x.to : Int)]] w (KeepPost w B g iv kv I (putN (posN (kNm K) x.nm) (hasN (kNm K) x.nm) K x) (.tuple #[])) := by
  obtain ⟨ka, kc, rfl, -, -⟩ := H.kep.at
  have hal : Below w.heap.size w (w.alloc (.cells #[.string x.nm, .int .i64 (x.fr : Int), .int .i64 (x.to : Int)] 242)) := (Below.refl _ _).alloc (Nat.le_refl _) _
  have hone : OneK (w.alloc (.cells #[.string x.nm, .int .i64 (x.fr : Int), .int .i64 (x.to : Int)] 242)) w.heap.size x := heap_alloc_new w _
  have HF := hide (find_anyS x.nm _ (H.below hal) hok hlen)
  have mixed := mixedS
  have hpl : posN (kNm K) x.nm ≤ K.length := by have := pos_le (kNm K) x.nm; rwa [kNm_len] at this
  have hBw : B ≤ w.heap.size := by have := H.low; have := H.gl; omega
  cases hh : hasN (kNm K) x.nm
  · rw [hh] at HF
    generalize posN (kNm K) x.nm = p at HF hpl ⊢
    have HH := hide (H.below hal)
    have HA := hide hal
    have HO := hide hone
    clear H hal hone
    go_enter Tryz.func126, Tryz.ntmps126
    go_wp2_with fail
    refine (unhide HF).mono ?_
    rintro e W ⟨rfl, hb⟩
    have HW := hide ((unhide HH).below hb)
    have HB := hide ((unhide HA).trans (hb.mono (unhide HA).size))
    have HKB : Hid (Kept (ST g (.slice ka K.length kc)) w W) := hide (Kept.of_below (unhide HB) _)
    have HOW : Hid (OneK W w.heap.size x) := hide (by unfold OneK; rw [hb.block _ (by simp)]; exact unhide HO)
    have c1 := (unhide HW).c1
    have b0 : W.cell? ⟨w.heap.size, 0, none⟩ = some (.string x.nm) := by rw [cell_of_row _ _ _ _ _ _ (unhide HOW)]; rfl
    have b1 : W.cell? ⟨w.heap.size, 1, none⟩ = some (.int .i64 (x.fr : Int)) := by rw [cell_of_row _ _ _ _ _ _ (unhide HOW)]; rfl
    have b2 : W.cell? ⟨w.heap.size, 2, none⟩ = some (.int .i64 (x.to : Int)) := by rw [cell_of_row _ _ _ _ _ _ (unhide HOW)]; rfl
    clear HF hb HH HA HO
    generalize w.heap.size = bx at *
    have ald : Below W.heap.size W (W.drew.alloc (.cells #[.string x.nm, .int .i64 (x.fr : Int), .int .i64 (x.to : Int)] 242)) := ⟨rfl, rfl, rfl, by simp, fun k hk => heap_alloc_old W.drew _ hk⟩
    have HW2 := hide ((unhide HW).below ald)
    have c1a := (unhide HW2).c1
    have c1d : W.drew.cell? ⟨g, 1, none⟩ = some (.slice ka K.length kc) := c1
    have b0d : W.drew.cell? ⟨bx, 0, none⟩ = some (.string x.nm) := b0
    have b1d : W.drew.cell? ⟨bx, 1, none⟩ = some (.int .i64 (x.fr : Int)) := b1
    have b2d : W.drew.cell? ⟨bx, 2, none⟩ = some (.int .i64 (x.to : Int)) := b2
    have HI := hide (Insert_anyS x p (unhide HW2).kep (vb := W.heap.size) (heap_alloc_new W.drew _) (fun e => by have := (World.ownsRow.lt (unhide HW).kep _ e).2; omega) hpl hlen (by have := (unhide HW2).low; have := (unhide HW2).gl; omega))
    have HST : Hid (∀ w2 v', OwnK w2 B v' (K.take p ++ x :: K.drop p) → Kept (fun k => (Value.slice ka K.length kc).ownBlock = some k) (W.drew.alloc (.cells #[.string x.nm, .int .i64 (x.fr : Int), .int .i64 (x.to : Int)] 242)) w2 → w2.cell? ⟨g, 1, none⟩ = some (.slice ka K.length kc) ∧ w2.frozen? ⟨g, 1, none⟩ = false) := hide (fun w2 v' _ hk => by
      have e := hk.block g (unhide HW2).gl (unhide HW2).kg
      exact ⟨(World.cell?_of_block e).trans (unhide HW2).c1, frozen_of_row _ _ _ _ _ (e.trans (unhide HW2).row)⟩)
    have HE : Hid (putN p false K x = K.take p ++ x :: K.drop p) := hide rfl
    generalize (K.take p ++ x :: K.drop p) = K2 at HI HST HE
    have HAD := hide ald
    have hgl : g < W.heap.size := (unhide HW).gl
    have hgn : ¬ g = W.heap.size := by omega
    clear ald
    go_wp2_with fail
    go_region_with (go_at_call 145; refine (unhide HI).mono ?_; rintro e w2 ⟨v', rfl, hO, hk⟩; obtain ⟨c1', f1'⟩ := unhide HST w2 v' hO hk; obtain ⟨a', cap', rfl, -, -⟩ := hO.at)
    all_goals
      go_wp2
      have hX := (unhide HW2).setK hO hk
      have hX2 := (Kept.of_below (unhide HAD) (ST g _)).trans hX.2 (fun _ _ h => h) (fun _ _ h => h)
      go_end0
      exact ⟨_, rfl, by rw [unhide HE]; exact hX.1, (unhide HKB).trans hX2 (fun _ _ h => h) (fun _ _ h => h)⟩
  · rw [hh] at HF
    have hlt := has_lt hh
    rw [kNm_len] at hlt
    obtain ⟨kb, hkb⟩ : ∃ kb, ka = some ⟨kb, 0, none⟩ := by
      rcases H.kep.2 with ⟨_, h2⟩ | ⟨g', cap', cur, hv, r⟩
      · omega
      · injection hv with hv _ _
        exact ⟨g', hv⟩
    subst hkb
    generalize posN (kNm K) x.nm = p at HF hpl hlt ⊢
    have HH := hide (H.below hal)
    have HA := hide hal
    have HO := hide hone
    clear H hal hone
    go_enter Tryz.func126, Tryz.ntmps126
    go_wp2_with fail
    refine (unhide HF).mono ?_
    rintro e W ⟨rfl, hb⟩
    have HW := hide ((unhide HH).below hb)
    have HB := hide ((unhide HA).trans (hb.mono (unhide HA).size))
    have HKB : Hid (Kept (ST g (.slice (some ⟨kb, 0, none⟩) K.length kc)) w W) := hide (Kept.of_below (unhide HB) _)
    have HOW : Hid (OneK W w.heap.size x) := hide (by unfold OneK; rw [hb.block _ (by simp)]; exact unhide HO)
    have c1 := (unhide HW).c1
    have b0 : W.cell? ⟨w.heap.size, 0, none⟩ = some (.string x.nm) := by rw [cell_of_row _ _ _ _ _ _ (unhide HOW)]; rfl
    have b1 : W.cell? ⟨w.heap.size, 1, none⟩ = some (.int .i64 (x.fr : Int)) := by rw [cell_of_row _ _ _ _ _ _ (unhide HOW)]; rfl
    have b2 : W.cell? ⟨w.heap.size, 2, none⟩ = some (.int .i64 (x.to : Int)) := by rw [cell_of_row _ _ _ _ _ _ (unhide HOW)]; rfl
    clear HF hb HH HA HO HB
    generalize w.heap.size = bx at *
    have hil : ((p : Nat) : Int) < ((K.length : Nat) : Int) := by omega
    obtain ⟨cur, -, hbg, hrow, hc1, hc2, hs, ht⟩ := (unhide HW).kep.row
    have t0 : W.cell? ⟨kb, p * 3, none⟩ = some (cur[p * 3]'(by omega)) := by rw [cell_of_row _ _ _ _ _ _ hrow, Array.getElem?_eq_getElem (by omega)]
    have t1 : W.cell? ⟨kb, p * 3 + 1, none⟩ = some (cur[p * 3 + 1]'(by omega)) := by rw [cell_of_row _ _ _ _ _ _ hrow, Array.getElem?_eq_getElem (by omega)]
    have t2 : W.cell? ⟨kb, p * 3 + 2, none⟩ = some (cur[p * 3 + 2]'(by omega)) := by rw [cell_of_row _ _ _ _ _ _ hrow, Array.getElem?_eq_getElem (by omega)]
    have f0 : ∀ k, W.frozen? ⟨kb, k, none⟩ = false := fun k => frozen_of_row _ _ _ _ _ hrow
    go_wp2_with fail
    go_region
    have hone3 : ∀ v ∈ keC x, v.oneCell' = true := keC_one x
    have hsz : p * 3 + (keC x).length ≤ cur.size := by rw [hs]; simp [keC]; omega
    have hw : ((W.setCell ⟨kb, p * 3, none⟩ (.string x.nm)).setCell ⟨kb, p * 3 + 1, none⟩ (.int .i64 (x.fr : Int))).setCell ⟨kb, p * 3 + 2, none⟩ (.int .i64 (x.to : Int)) = W.setRow kb (spl cur.toList (p * 3) (keC x)).toArray := by
      rw [← setCells_row hrow hsz hone3]
      rfl
    rw [hw]
    have hlk : (putN p true K x).length = K.length := by rw [putN_len x hpl (fun _ => hlt)]; rfl
    have hO : OwnK (W.setRow kb (spl cur.toList (p * 3) (keC x)).toArray) B (.slice (some ⟨kb, 0, none⟩) K.length kc) (putN p true K x) := by
      rw [← hlk]
      refine OwnK.mk' hbg (setRow_heap W kb cur _ _ _ hrow) (by omega) hc2 ?_ ?_
      · rw [List.size_toArray, spl_len (by rw [Array.length_toList]; exact hsz), Array.length_toList, hs]
      · rw [hlk]; exact set_row x ht hlt
    have hk : Kept (fun k => (Value.slice (some ⟨kb, 0, none⟩) K.length kc).ownBlock = some k) W (W.setRow kb (spl cur.toList (p * 3) (keC x)).toArray) := (kept_row W kb _).mono (fun k _ e => by rw [e]; rfl)
    have hS : IsSt (W.setRow kb (spl cur.toList (p * 3) (keC x)).toArray) B g iv (.slice (some ⟨kb, 0, none⟩) K.length kc) I (putN p true K x) :=
      ⟨by rw [hk.block g (unhide HW).gl (unhide HW).kg]; exact (unhide HW).row, (unhide HW).low, (unhide HW).img.keep hk (fun k e => (unhide HW).ik k e), hO⟩
    have HX := hide (And.intro hS (hk.mono (T := ST g (.slice (some ⟨kb, 0, none⟩) K.length kc)) (fun k _ e => Or.inr e)))
    clear hS hk hO hw
    generalize (W.setRow kb (spl cur.toList (p * 3) (keC x)).toArray) = W3 at HX ⊢
    go_wp2
    go_end0
    have hd : Kept (ST g (.slice (some ⟨kb, 0, none⟩) K.length kc)) W3 W3.drew := kept_drewR _ _
    exact ⟨_, rfl, ⟨(unhide HX).1.row, (unhide HX).1.low, (unhide HX).1.img, (unhide HX).1.kep⟩, ((unhide HKB).trans (unhide HX).2 (fun _ _ h => h) (fun _ _ h => h)).trans hd (fun _ _ h => h) (fun _ _ h => h)⟩
end Go.Proofs.YtkiijdcpfbnacaaGreatDoor
