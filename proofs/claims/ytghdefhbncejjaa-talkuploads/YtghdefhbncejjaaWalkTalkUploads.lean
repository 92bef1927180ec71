/-
  The walk of the law TalkUploads: Upload answers as the document has it, in memory of its own; the file stays.
-/
import Derived.Test.YtghdefhbncejjaaTu3
import Derived.Test.YtghdefhbncejjaaOwn
import Derived.Test.YtghdefhbncejjaaWalkTalkBack
namespace Go.Proofs.Ytghdefhbncejjaa
open Go.RowKit
set_option linter.unusedVariables false

set_option maxHeartbeats 1000000 in
theorem marked_nil {w : World} {sp : Nat} (h : Sh w sp (.slice none 0 0) []) :
    Calls Try.prog 38 #[.pointer (some ⟨sp, 0, none⟩), .slice none 0 0, .slice none 0 0] w fun e w' => e = .returned (.bool true) ∧ w' = w := by
  have c0 := h.c0
  have c1 := h.c1
  clear h
  go_enter Try.func38, Try.ntmps38
  go_wp2
  go_loopw [24] (fun i wr => i = .int .i64 0 ∧ wr = w) (fun _ _ => 0)
  case atStart => exact ⟨rfl, rfl⟩
  case round =>
    obtain ⟨rfl, rfl⟩ := hrel
    go_wp2
    go_loopw [62] (fun i wr' => i = .int .i64 0 ∧ wr' = wr) (fun _ _ => 0)
    case atStart => exact ⟨rfl, rfl⟩
    case round =>
      obtain ⟨rfl, rfl⟩ := hrel
      go_wp2
      go_ret
      exact ⟨rfl, rfl⟩
set_option maxHeartbeats 1000000 in
theorem Own_nil {w : World} {sp : Nat} (h : Sh w sp (.slice none 0 0) []) :
    Calls Try.prog 24 #[.pointer (some ⟨sp, 0, none⟩)] w fun e w' => e = .returned (.bool true) ∧ w' = w := by
  have c0 := h.c0
  have c1 := h.c1
  have HM := hide (marked_nil h)
  clear h
  go_enter Try.func24, Try.ntmps24
  go_wp2
  go_loopw [22] (fun i wr => i = .int .i64 0 ∧ wr = w) (fun _ _ => 0)
  case atStart => exact ⟨rfl, rfl⟩
  case round =>
    obtain ⟨rfl, rfl⟩ := hrel
    go_wp2
    go_loopw [45] (fun i wq => i = .int .i64 0 ∧ wq = wr) (fun _ _ => 0)
    case atStart => exact ⟨rfl, rfl⟩
    case round =>
      obtain ⟨rfl, rfl⟩ := hrel
      go_wp2
      go_loopw [9, 67] (fun mv i wq => mv = .slice none 0 0 ∧ i = .int .i64 0 ∧ wq = wr) (fun _ _ _ => 0)
      case atStart => exact ⟨rfl, rfl, rfl⟩
      case round =>
        obtain ⟨rfl, rfl, rfl⟩ := hrel
        go_wp2
        go_loopw [10, 92] (fun mi i wq => mi = .slice none 0 0 ∧ i = .int .i64 0 ∧ wq = wr) (fun _ _ _ => 0)
        case atStart => exact ⟨rfl, rfl, rfl⟩
        case round =>
          obtain ⟨rfl, rfl, rfl⟩ := hrel
          go_wp2_with fail
          refine (unhide HM).mono ?_
          rintro e w2 ⟨rfl, rfl⟩
          go_wp2
          go_ret
          exact ⟨rfl, rfl⟩
theorem upP_fit (l : List UInt8) (C n : Nat) : ∀ p ∈ upP l C n, p.2.2.length ≤ l.length := by
  induction n with
  | zero => intro p hp; unfold upP at hp; simp at hp; subst hp; simp
  | succ n ih =>
    intro p hp
    unfold upP at hp
    rcases List.mem_append.1 hp with h | h
    · exact ih p h
    · simp at h
      subst h
      simp
      omega
theorem upR_fit (l : List UInt8) (ch : Int) : ∀ p ∈ upR l ch, p.2.2.length ≤ l.length := by
  intro p hp
  unfold upR at hp
  split at hp
  · unfold upA at hp
    rcases List.mem_append.1 hp with h | h
    · exact upP_fit l _ _ p h
    · simp at h; subst h; simp
  · simp at hp
theorem upR_len (l : List UInt8) (ch : Int) (h : l.length ≤ 140737488351232) : (upR l ch).length ≤ 5000 := by
  unfold upR
  split
  · rename_i he
    unfold upA
    rw [List.length_append, upP_len]
    have : 1 ≤ ch ∧ ch ≤ 255 ∧ l.length ≤ 4096 := by
      unfold upE at he
      split at he
      · omega
      · split at he
        · omega
        · omega
    have := upN_le (l := l) (C := ch.toNat) (by omega) this.2.2
    simp
    omega
  · simp
theorem shQ {w : World} {sp : Nat} {sv : Value} {its : List Value} (h : Sh w sp sv its) {B : Nat} {v : Value} {Q : List Rq} (ho : OwnQ w B v Q) : ∀ k, v.ownBlock = some k → ¬ (k = sp ∨ sv.ownBlock = some k) := by
  intro k e hk
  rcases ho.2 with ⟨h1, _⟩ | ⟨g, cap, cur, hv, _, hh, _⟩
  · rw [h1] at e; cases e
  · rw [hv] at e
    injection e with e
    have e1 : g = k := e
    rw [e1] at hh
    rcases hk with hk | hk
    · have := h.box
      rw [← hk, hh] at this
      injection this with this
      injection this with _ ht _
      exact absurd ht (by decide)
    · obtain ⟨cur', hh'⟩ := rowType h.row k hk
      rw [hh] at hh'
      injection hh' with hh'
      injection hh' with _ ht _
      exact absurd ht (by decide)
theorem Ups.kept {w w' : World} {sp : Nat} {sv : Value} {its : List Value} {B : Nat} {v : Value} {Q : List Rq} {P : List (Int × Int × List UInt8)} (h : Ups w B v Q P) (hs : Sh w sp sv its) (hk : Kept (fun k => k = sp ∨ sv.ownBlock = some k) w w') : Ups w' B v Q P :=
  ⟨h.own.keep hk (shQ hs h.own), h.pl, fun i x hx => (h.dat i x hx).keep hk (fun k e e2 => by
    have h1 := hs.bytes (h.dat i x hx)
    rcases e2 with e2 | e2
    · exact h1.1 (by rw [e, e2])
    · exact h1.2 k e e2), h.apt⟩
theorem Ups.at {w : World} {B : Nat} {v : Value} {Q : List Rq} {P : List (Int × Int × List UInt8)} (h : Ups w B v Q P) {k : Nat} (hk : k < Q.length) : ∃ g cap x, v = .slice (some ⟨g, 0, none⟩) Q.length cap ∧ Q[k]? = some x ∧ P[k]? = some (qP x) ∧ w.cell? ⟨g, k * 3, none⟩ = some (.int .i64 x.cm) ∧ w.cell? ⟨g, k * 3 + 1, none⟩ = some (.int .i64 x.nu) ∧ w.cell? ⟨g, k * 3 + 2, none⟩ = some (.slice x.ba x.bs.length x.bc) := by
  obtain ⟨ao, cap, hv, hn, _, _, hat⟩ := h.own.at
  cases ao with
  | none => have := hn rfl; rw [this] at hk; simp at hk
  | some b =>
    obtain ⟨g, hb, hc⟩ := hat b rfl
    have hx : Q[k]? = some Q[k] := List.getElem?_eq_getElem hk
    refine ⟨g, cap, Q[k], by rw [hv, hb], hx, by rw [← h.pl, List.getElem?_map, hx]; rfl, ?_, ?_, ?_⟩
    · exact hc _ _ ((rqV_get hx 0 (by omega)).trans (by rfl))
    · exact hc _ _ ((rqV_get hx 1 (by omega)).trans (by rfl))
    · exact hc _ _ ((rqV_get hx 2 (by omega)).trans (by rfl))
set_option maxHeartbeats 8000000 in
theorem walkTalkUploads {w : World} (ao : Option Addr) (c : Nat) (l : List UInt8) (hd : BAt w ao l) (hn : ao = none → l = []) (hz : l.length ≤ 140737488351232) (hlc : l.length ≤ c) (ch : Int) (hch : (Lit.int .i64 ch).wf = true) :
    Calls Try.prog 5 #[.slice ao l.length c, .int .i64 ch] w fun e w' => e = .returned (.bool true) ∧ Below w.heap.size w w' := by
  have HD := hide hd
  have HRm := hide (Roomy_any ao c l w hd hn hz)
  have HUp := hide (fun ao c W hb hlc hl => Upload_any ao c l ch W hb hlc hl)
  have HUr := hide (fun ao c W hb hlc hl => refUpload_any ao c l ch W hb hlc hl)
  have HFit := hide (upR_fit l ch)
  have hPl := upR_len l ch hz
  generalize upE l ch = E at HUp HUr
  generalize upR l ch = P at HUp HUr HFit hPl
  clear hd hn hch
  go_enter Try.func5, Try.ntmps5
  go_wp2_with fail
  refine (unhide HRm).mono ?_
  rintro e W1 ⟨g, cp, rfl, hg, hO1, hb1⟩
  have HB1 := hide hb1
  obtain ⟨hcp, hgb, hgl⟩ := roomy_parts hO1
  have HG := hide hgb
  have HU := hide (unhide HUp (some ⟨g, 0, none⟩) cp W1 hgl (by omega) hz)
  clear hO1 hb1 hgb hgl hg HRm
  go_wp2_with fail
  refine (unhide HU).mono ?_
  rintro e W2 ⟨v, Q, rfl, hU2, hb2⟩
  have HV := hide (unhide HUr ao c W2 ((unhide HD).below' ((unhide HB1).trans (hb2.mono (unhide HB1).size))) hlc hz)
  have HU2 := hide hU2
  have HB2 := hide hb2
  obtain ⟨qa, qc, rfl, -⟩ := hU2.own.at
  clear hU2 hb2 HU
  go_wp2_with fail
  refine (unhide HV).mono ?_
  rintro e W3 ⟨v', R, rfl, hU3, hb3⟩
  obtain ⟨ra, rc, rfl, -⟩ := hU3.own.at
  have hQl : Q.length = P.length := by rw [← (unhide HU2).pl, List.length_map]
  have hRl : R.length = P.length := by rw [← hU3.pl, List.length_map]
  have hal : Below W3.heap.size W3 (W3.alloc (.cells #[.slice none 0 0, .slice none 0 0] 48)) := (Below.refl _ _).alloc (Nat.le_refl _) _
  have HS0 : Hid (Sh (W3.alloc (.cells #[.slice none 0 0, .slice none 0 0] 48)) W3.heap.size (.slice none 0 0) []) := hide ⟨heap_alloc_new W3 _, World.ownsRow_nil _ _ _ _⟩
  have HU4 := hide (((unhide HU2).below hb3).below hal)
  have HV4 := hide (hU3.below hal)
  have HB4 := hide ((unhide HB2).trans ((hb3.trans (hal.mono hb3.size)).mono (unhide HB2).size))
  have hne : (((Q.length : Nat) : Int) != ((R.length : Nat) : Int)) = false := bne_f (by omega)
  have hQR : Q.length = R.length := by omega
  have HQR := hide hQR
  have HQl := hide hQl
  have hQ5 : Q.length ≤ 5000 := by omega
  have hsz3 : W1.heap.size ≤ W3.heap.size := by have := (unhide HB2).size; have := hb3.size; omega
  clear hU3 hb3 hal HV HU2 HB2 hQl hRl hQR
  go_upto_region 7 with fail
  have Hsp : Hid (W1.heap.size ≤ W3.heap.size) := hide hsz3
  clear hsz3
  generalize W3.heap.size = sp at HS0 Hsp ⊢
  generalize (W3.alloc (.cells #[.slice none 0 0, .slice none 0 0] 48)) = W4 at HS0 HU4 HV4 HB4 ⊢
  go_wp2_with fail
  go_loopw [42] (fun i wr => ∃ (k : Nat) (sv : Value), k ≤ Q.length ∧ i = .int .i64 (k : Int) ∧ Hid (Sh wr sp sv ((Q.take k).map qV)) ∧ Hid (Ups wr W1.heap.size (.slice qa Q.length qc) Q P) ∧ Hid (Ups wr W2.heap.size (.slice ra R.length rc) R P) ∧ Hid (Below W1.heap.size W1 wr) ∧ Hid ((k = 0 → sv = .slice none 0 0) ∧ ∀ j, sv.ownBlock = some j → W1.heap.size ≤ j)) (fun i _ => Q.length - (intOf i).toNat)
  case atStart => exact ⟨0, _, by omega, rfl, HS0, HU4, HV4, HB4, hide ⟨fun _ => rfl, fun j e => by cases e⟩⟩
  case round =>
    clear HS0 HU4 HV4 HB4
    obtain ⟨k, sv, hk, rfl, HS, HU, HV, HBr, H0⟩ := hrel
    by_cases hlt : k < Q.length
    · obtain ⟨qg, qc', x, hv1, hx, hpx, x0, x1, x2⟩ := (unhide HU).at hlt
      injection hv1 with hv1 _ hv2
      subst hv1 hv2
      obtain ⟨rg, rc', y, hv1, hy, hpy, y0, y1, y2⟩ := (unhide HV).at (by have := unhide HQR; omega : k < R.length)
      injection hv1 with hv1 _ hv2
      subst hv1 hv2
      have hdx := (unhide HU).dat k x hx
      have hdy := (unhide HV).dat k y hy
      have hfx : x.bs.length ≤ l.length := unhide HFit _ (List.mem_of_getElem? hpx)
      rw [hpx] at hpy
      injection hpy with hpy
      have Hx := hide hx
      obtain ⟨cm, nu, xa, xc, bs⟩ := x
      obtain ⟨cm', nu', ya, yc, bs'⟩ := y
      unfold qP at hpy
      simp only [Prod.mk.injEq] at hpy
      obtain ⟨rfl, rfl, rfl⟩ := hpy
      simp only at x0 x1 x2 y0 y1 y2 hfx
      obtain ⟨xa', xc', ex, hxb, -⟩ := own_capT hdx
      obtain ⟨ya', yc', ey, hyb, -⟩ := own_capT hdy
      unfold qV at ex ey
      injection ex with ex1 _ ex3
      injection ey with ey1 _ ey3
      simp only at ex1 ex3 ey1 ey3
      subst ex1 ex3 ey1 ey3
      have i1 : (k : Int) < ((Q.length : Nat) : Int) := by omega
      have i2 : (k : Int) < ((R.length : Nat) : Int) := by have := unhide HQR; omega
      have HSm := hide (sameRq_yes cm nu xa ya xc yc bs wr.drew hxb hyb (by unfold maxLen; omega))
      have HSS : Hid (∀ w', Below wr.heap.size wr w' → (w'.cell? ⟨qg, k * 3, none⟩ = some (.int .i64 cm) ∧ w'.cell? ⟨qg, k * 3 + 1, none⟩ = some (.int .i64 nu) ∧ w'.cell? ⟨qg, k * 3 + 2, none⟩ = some (.slice xa bs.length xc)) ∧ (w'.cell? ⟨rg, k * 3, none⟩ = some (.int .i64 cm) ∧ w'.cell? ⟨rg, k * 3 + 1, none⟩ = some (.int .i64 nu) ∧ w'.cell? ⟨rg, k * 3 + 2, none⟩ = some (.slice ya bs.length yc))) := hide (fun w' hb => ⟨⟨(hb.cell (p := ⟨qg, k * 3, none⟩) (World.block_lt_of_cell? wr _ x0)).trans x0, (hb.cell (p := ⟨qg, k * 3 + 1, none⟩) (World.block_lt_of_cell? wr _ x1)).trans x1, (hb.cell (p := ⟨qg, k * 3 + 2, none⟩) (World.block_lt_of_cell? wr _ x2)).trans x2⟩, ⟨(hb.cell (p := ⟨rg, k * 3, none⟩) (World.block_lt_of_cell? wr _ y0)).trans y0, (hb.cell (p := ⟨rg, k * 3 + 1, none⟩) (World.block_lt_of_cell? wr _ y1)).trans y1, (hb.cell (p := ⟨rg, k * 3 + 2, none⟩) (World.block_lt_of_cell? wr _ y2)).trans y2⟩⟩)
      have HDr : Hid (Below wr.heap.size wr wr.drew) := hide ⟨rfl, rfl, rfl, Nat.le_refl _, fun _ _ => rfl⟩
      have HH0 := hide hlt
      clear hdx hdy hxb hyb hx hy hpx x0 x1 x2 y0 y1 y2 hlt
      go_upto_region 10 with fail
      have mixed := mixedT
      refine wp_region_held_drew (S := fun w' => (w'.cell? ⟨qg, k * 3, none⟩ = some (.int .i64 cm) ∧ w'.cell? ⟨qg, k * 3 + 1, none⟩ = some (.int .i64 nu) ∧ w'.cell? ⟨qg, k * 3 + 2, none⟩ = some (.slice xa bs.length xc)) ∧ (w'.cell? ⟨rg, k * 3, none⟩ = some (.int .i64 cm) ∧ w'.cell? ⟨rg, k * 3 + 1, none⟩ = some (.int .i64 nu) ∧ w'.cell? ⟨rg, k * 3 + 2, none⟩ = some (.slice ya bs.length yc))) mixed (unhide HSS _ (unhide HDr)) (fun hS => ?_)
      generalize wr.drew = Wd at hS HSm HDr ⊢
      refine wpAnyH_take (i := 0) (v := .slice (some ⟨qg, 0, none⟩) Q.length qc) rfl (by kernel_rfl) (by kernel_rfl) (by kernel_rfl) (fun _ _ _ h => h) (Or.inl ⟨by rfl, fun W _ => by go_simp⟩) hS ?_
      go_simp
      refine wpAnyH_take (i := 1) (v := .int .i64 (k : Int)) rfl (by kernel_rfl) (by kernel_rfl) (by kernel_rfl) (fun _ _ _ h => h) (Or.inl ⟨by rfl, fun W _ => by go_simp⟩) hS ?_
      go_simp
      refine wpAnyH_take (i := 2) (v := .pointer (some ⟨qg, k * 3, none⟩)) rfl (by kernel_rfl) (by kernel_rfl) (by kernel_rfl) (fun _ _ _ h => h) (Or.inl ⟨by rfl, fun W _ => by go_simp⟩) hS ?_
      go_simp
      refine wpAnyH_take (i := 3) (v := .agg #[.int .i64 cm, .int .i64 nu, .slice xa bs.length xc]) rfl (by kernel_rfl) (by kernel_rfl) (by kernel_rfl) (fun _ _ _ h => h) (Or.inl ⟨by rfl, fun W h => by have h0 := h.1.1; have h1 := h.1.2.1; have h2 := h.1.2.2; go_simp⟩) hS ?_
      go_simp
      refine wpAnyH_take (i := 4) (v := .slice (some ⟨rg, 0, none⟩) R.length rc) rfl (by kernel_rfl) (by kernel_rfl) (by kernel_rfl) (fun _ _ _ h => h) (Or.inl ⟨by rfl, fun W _ => by go_simp⟩) hS ?_
      go_simp
      refine wpAnyH_take (i := 5) (v := .int .i64 (k : Int)) rfl (by kernel_rfl) (by kernel_rfl) (by kernel_rfl) (fun _ _ _ h => h) (Or.inl ⟨by rfl, fun W _ => by go_simp⟩) hS ?_
      go_simp
      refine wpAnyH_take (i := 6) (v := .pointer (some ⟨rg, k * 3, none⟩)) rfl (by kernel_rfl) (by kernel_rfl) (by kernel_rfl) (fun _ _ _ h => h) (Or.inl ⟨by rfl, fun W _ => by go_simp⟩) hS ?_
      go_simp
      refine wpAnyH_take (i := 7) (v := .agg #[.int .i64 cm, .int .i64 nu, .slice ya bs.length yc]) rfl (by kernel_rfl) (by kernel_rfl) (by kernel_rfl) (fun _ _ _ h => h) (Or.inl ⟨by rfl, fun W h => by have h0 := h.2.1; have h1 := h.2.2.1; have h2 := h.2.2.2; go_simp⟩) hS ?_
      go_simp
      refine wpAnyH_ready (rs := [8]) (by kernel_rfl) (by simp) ?_
      refine AllReadyH.cons rfl (fun K hK => ?_) AllReadyH.nil
      go_simp
      go_wp2_with (go_at_call 17; with_reducible refine (unhide HSm).mono ?_; rintro e W6 ⟨rfl, hb6⟩)
      have HD6 := hide ((unhide HDr).trans (hb6.mono (unhide HDr).size))
      refine hK.out _ _ (unhide HSS _ (unhide HD6)) (fun hS6 => ?_)
      clear hK K hS hb6 HSm
      refine wpAnyH_take (i := 9) (v := .bool false) rfl (by kernel_rfl) (by kernel_rfl) (by kernel_rfl) (fun _ _ _ h => h) (Or.inl ⟨by rfl, fun W _ => by go_simp⟩) hS6 ?_
      go_simp
      refine wpAnyH_done (by kernel_rfl) ?_ _
      have HS6 := hide ((unhide HS).below (unhide HD6))
      have HU6 := hide ((unhide HU).below (unhide HD6))
      have HV6 := hide ((unhide HV).below (unhide HD6))
      have HB6 := hide ((unhide HBr).trans ((unhide HD6).mono (unhide HBr).size))
      have z2 := hS6.1.2.2
      have HSb := hide (ShBytes (unhide HS6) xa bs.length xc (by rw [List.length_map, List.length_take]; omega))
      clear hS6 HS HU HV HBr HSS HDr
      go_wp2_with fail
      refine (unhide HSb).mono ?_
      rintro e W7 ⟨rfl, sv', hS7, hk7, hF7⟩
      have HU7 := hide ((unhide HU6).kept (unhide HS6) hk7)
      have HV7 := hide ((unhide HV6).kept (unhide HS6) hk7)
      have HB7 : Hid (Below W1.heap.size W1 W7) := hide (hk7.below (unhide HB6) (unhide HB6).size (fun j e => by
        rcases e with e | e
        · have := unhide Hsp; omega
        · exact (unhide H0).2 j e))
      have HF7 : Hid ((k + 1 = 0 → sv' = .slice none 0 0) ∧ ∀ j, sv'.ownBlock = some j → W1.heap.size ≤ j) := hide ⟨fun h => by omega, fun j e => by
        rcases hF7 j e with h | h
        · exact (unhide H0).2 j h
        · have := (unhide HB6).size; omega⟩
      have HS7 : Hid (Sh W7 sp sv' ((Q.take (k + 1)).map qV)) := hide (by
        rw [List.take_add_one, unhide Hx, List.map_append]
        exact hS7)
      clear hS7 hk7 hF7 z2 HSb HU6 HV6 HS6 HB6
      go_wp2
      go_roundw
      case rel => exact ⟨k + 1, sv', by have := unhide HH0; omega, by go_num, HS7, HU7, HV7, HB7, HF7⟩
      case measure => have := unhide HH0; simp [intOf]; omega
    · have i1 : ¬ (k : Int) < ((Q.length : Nat) : Int) := by omega
      have hkq : k = Q.length := by omega
      subst hkq
      rw [List.take_length] at HS
      have HDd := hide ((unhide HD).below' ((unhide HB1).trans ((unhide HBr).mono (unhide HB1).size)))
      have HOw : Hid (Calls Try.prog 24 #[.pointer (some ⟨sp, 0, none⟩)] wr fun e w' => e = .returned (.bool true) ∧ Below W1.heap.size W1 w') := hide (by
        by_cases hQ0 : Q.length = 0
        · have hs := unhide HS
          rw [(unhide H0).1 hQ0, List.eq_nil_of_length_eq_zero hQ0] at hs
          refine (Own_nil hs).mono ?_
          rintro e w' ⟨rfl, rfl⟩
          exact ⟨rfl, unhide HBr⟩
        · have hit : ∀ (i : Nat) v, (Q.map qV)[i]? = some v → ∃ x, Q[i]? = some x ∧ v = qV x := fun i v h => by
            rw [List.getElem?_map] at h
            cases hq : Q[i]? with
            | none => rw [hq] at h; cases h
            | some x => rw [hq] at h; injection h with h; exact ⟨x, rfl, h.symm⟩
          refine (Own_yes (unhide HS) (fun i v h => ?_) (fun i j a b ha hb hij k e => ?_) (by rw [List.length_map]; omega) (by rw [List.length_map]; omega)).mono ?_
          · obtain ⟨x, hx, rfl⟩ := hit i v h
            refine ⟨x.bs, ((unhide HU).dat i x hx).mono (Nat.zero_le _), ?_, fun h => by omega⟩
            have : qP x ∈ P := by rw [← (unhide HU).pl]; exact List.mem_map.2 ⟨x, List.mem_of_getElem? hx, rfl⟩
            have := unhide HFit _ this
            exact Nat.le_trans this hz
          · obtain ⟨x, hx, rfl⟩ := hit i a ha
            obtain ⟨y, hy, rfl⟩ := hit j b hb
            exact (unhide HU).apt i j x y hx hy hij k e
          · rintro e w' ⟨rfl, hk⟩
            refine ⟨rfl, hk.below (unhide HBr) (unhide HBr).size (fun j e => ?_)⟩
            obtain ⟨v, hv, hj⟩ := e
            obtain ⟨x, hx, rfl⟩ := List.mem_map.1 hv
            obtain ⟨i, hi⟩ := List.getElem?_of_mem hx
            exact (World.ownsRow.lt ((unhide HU).dat i x hi) j hj).1)
      clear HS HU HV H0
      go_wp2_with fail
      refine (unhide HOw).mono ?_
      rintro e V8 ⟨rfl, hb8⟩
      have HC8 := hide hb8
      have HUt := hide (Untouched_yes g cp ao c l V8 ((unhide HG).below' hb8) ((unhide HD).below' ((unhide HB1).trans (hb8.mono (unhide HB1).size))) hcp (by omega))
      clear hb8 HOw
      go_wp2_with fail
      refine (unhide HUt).mono ?_
      rintro e V9 ⟨rfl, j, hw⟩
      have hdr : Below V8.heap.size V8 V9 := by rw [hw]; exact ⟨rfl, rfl, rfl, Nat.le_refl _, fun _ _ => rfl⟩
      have HC9 := hide ((unhide HC8).trans (hdr.mono (unhide HC8).size))
      clear hw hdr HUt
      go_wp2
      go_ret
      exact ⟨rfl, (unhide HB1).trans ((unhide HC9).mono (unhide HB1).size)⟩
end Go.Proofs.Ytghdefhbncejjaa
