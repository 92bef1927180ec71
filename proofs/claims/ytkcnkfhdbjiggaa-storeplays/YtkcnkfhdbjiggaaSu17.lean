/-
  (*Store).Pack: the same under the same names, in the least image.
-/
import Derived.Test.YtkcnkfhdbjiggaaSu16
import Derived.Test.YtkcnkfhdbjiggaaSu12
namespace Go.Proofs.Ytkcnkfhdbjiggaa
open Go.RowKit
set_option maxRecDepth 20000

def pkV (I : List UInt8) (K : List Ke) : List (ByteArray × List UInt8) := K.map fun e => (e.nm, seg I e.fr e.to)
def pkI (V : List (ByteArray × List UInt8)) : List UInt8 := V.flatMap fun p => recK p.1 p.2
/-- A store's image and entries that keep what the first ones of another do. -/
structure PkS (I : List UInt8) (P : List Ke) (I' : List UInt8) (K' : List Ke) : Prop where
  sm : pkV I' K' = pkV I P
  ok : OkK K'
  en : EnK I'.length K'
  im : ImK I' K'
  ln : I'.length = wtK P
  eq : I' = pkI (pkV I P)
theorem pkV_nm (I : List UInt8) (K : List Ke) : (pkV I K).map Prod.fst = kNm K := by
  unfold pkV kNm
  rw [List.map_map]
  rfl
theorem PkS.nm {I : List UInt8} {P : List Ke} {I' : List UInt8} {K' : List Ke} (h : PkS I P I' K') : kNm K' = kNm P := by
  rw [← pkV_nm I' K', h.sm, pkV_nm]
theorem PkS.same {I : List UInt8} {P : List Ke} {I' : List UInt8} {K' : List Ke} (h : PkS I P I' K') {L : List Rk} (hs : SameL I P L) : SameL I' K' L := by
  have := h.sm
  unfold SameL at hs ⊢
  unfold pkV at this
  rw [hs, this]
theorem PkS.zero (I : List UInt8) : PkS I [] [] [] := ⟨rfl, OkK.nilS, fun e he => (by cases he), ImK.zero, rfl, rfl⟩
theorem pos_end {N : List ByteArray} {s : ByteArray} (h : ∀ x ∈ N, ltS x s = true) : posN N s = N.length ∧ hasN N s = false := by
  have h1 : posN N s = N.length := pos_uniq (Nat.le_refl _) (fun i x _ hx => h x (List.mem_of_getElem? hx)) (fun x hx => by rw [List.getElem?_eq_none (Nat.le_refl _)] at hx; cases hx)
  refine ⟨h1, ?_⟩
  unfold hasN
  rw [h1, List.getElem?_eq_none (Nat.le_refl _)]
  rfl
theorem wt_le {n : Nat} {K : List Ke} (h : EnK n K) : wtK K ≤ K.length * 4124 := by
  induction K with
  | nil => simp [wtK]
  | cons x r ih =>
    have h1 := ih (fun e he => h e (List.mem_cons_of_mem _ he))
    have h2 := h x (List.mem_cons_self)
    have h3 := (name_24 h2.2.2.2).2
    have : wtK (x :: r) = (x.nm.size + 4 + (x.to - x.fr)) + wtK r := by simp [wtK]
    rw [this, List.length_cons]
    omega
theorem EnK.take {n : Nat} {K : List Ke} (h : EnK n K) (k : Nat) : EnK n (K.take k) := fun e he => h e (List.mem_of_mem_take he)
theorem PkS.step {I : List UInt8} {K : List Ke} {k : Nat} {I' : List UInt8} {K' : List Ke} (h : PkS I (K.take k) I' K') (hok : OkK K) (hen : EnK I.length K) {e : Ke} (hx : K[k]? = some e) :
    putE I' K' e.nm (seg I e.fr e.to) = 0 ∧ PkS I (K.take (k + 1)) (I' ++ recK e.nm (seg I e.fr e.to)) (putK I' K' e.nm (seg I e.fr e.to)) := by
  have hlt : k < K.length := by
    rcases Nat.lt_or_ge k K.length with hh | hh
    · exact hh
    · rw [List.getElem?_eq_none hh] at hx; cases hx
  have hen1 := hen e (List.mem_of_getElem? hx)
  obtain ⟨n1, n2⟩ := name_24 hen1.2.2.2
  have hsl := seg_len (I := I) hen1.1 hen1.2.1
  have hm : (seg I e.fr e.to).length ≤ 4096 := by rw [hsl]; omega
  have hlen : K'.length = k := by
    rw [← kNm_len, h.nm, kNm_len, List.length_take]
    omega
  have h16 := hok.few
  have hbig : I'.length ≤ 16 * 4124 := by
    have := wt_le (hen.take k)
    rw [h.ln]
    rw [List.length_take] at this
    omega
  have hall : ∀ x ∈ kNm K', ltS x e.nm = true := by
    intro x hxm
    rw [h.nm] at hxm
    unfold kNm at hxm
    rw [List.map_take] at hxm
    obtain ⟨i, hi⟩ := List.getElem?_of_mem hxm
    rw [List.getElem?_take] at hi
    split at hi
    · rename_i hik
      have hasc := hok.asc
      unfold Asc at hasc
      rw [List.pairwise_iff_getElem] at hasc
      have e2 : (kNm K)[k]? = some e.nm := by unfold kNm; rw [List.getElem?_map, hx]; rfl
      have hi' : (kNm K)[i]? = some x := hi
      obtain ⟨a1, a2⟩ := List.getElem?_eq_some_iff.1 hi'
      obtain ⟨b1, b2⟩ := List.getElem?_eq_some_iff.1 e2
      have := hasc i k a1 b1 hik
      rw [a2, b2] at this
      exact this
    · cases hi
  obtain ⟨p1, p2⟩ := pos_end hall
  rw [kNm_len] at p1
  have hl := recK_len e.nm (seg I e.fr e.to)
  have hfu : (hasN (kNm K') e.nm || decide (K'.length < 16)) = true := by rw [p2]; simp; omega
  have hc : putE I' K' e.nm (seg I e.fr e.to) = 0 := by
    unfold putE
    rw [hen1.2.2.2, hfu, if_neg (by simp), if_neg (by omega), if_neg (by simp), if_neg (by omega)]
  have hput : putK I' K' e.nm (seg I e.fr e.to) = K' ++ [⟨e.nm, I'.length + (recK e.nm (seg I e.fr e.to)).length - (seg I e.fr e.to).length, I'.length + (recK e.nm (seg I e.fr e.to)).length⟩] := by
    unfold putK putN
    rw [p1, p2]
    simp
  have htk : K.take (k + 1) = K.take k ++ [e] := snoc_take hx
  refine ⟨hc, ?_, ?_, ?_, h.im.put hc h.en, ?_, ?_⟩
  · rw [hput, htk]
    have hs := h.sm
    unfold pkV at hs ⊢
    rw [List.map_append, List.map_append, ← hs]
    congr 1
    · refine List.map_congr_left (fun y hy => ?_)
      rw [seg_app (h.en y hy).2.1]
    · show [(e.nm, seg _ _ _)] = [(e.nm, _)]
      have : recK e.nm (seg I e.fr e.to) = ([1] ++ nb e.nm ++ be ((seg I e.fr e.to).length : Int) 2) ++ seg I e.fr e.to := rfl
      rw [this, seg_end]
  · unfold putK
    exact h.ok.put ⟨e.nm, I'.length + (recK e.nm (seg I e.fr e.to)).length - (seg I e.fr e.to).length, I'.length + (recK e.nm (seg I e.fr e.to)).length⟩ hfu
  · intro y hy
    rw [hput] at hy
    rw [List.length_append]
    rcases List.mem_append.1 hy with hy | hy
    · have := h.en y hy
      exact ⟨this.1, by omega, this.2.2⟩
    · rcases List.mem_singleton.1 hy with rfl
      refine ⟨?_, ?_, ?_, hen1.2.2.2⟩
      · dsimp only; omega
      · dsimp only; omega
      · dsimp only; omega
  · rw [htk, wt_app, List.length_append, h.ln]
    have : wtK [e] = e.nm.size + 4 + (e.to - e.fr) := by simp [wtK]
    omega
  · rw [htk]
    conv => lhs; rw [h.eq]
    unfold pkV pkI
    rw [List.map_append, List.flatMap_append]
    simp
def BOfN (w : World) (m : List UInt8) (e : Ending) (w' : World) : Prop := ∃ ao c, e = .returned (.slice ao m.length c) ∧ BAt w' ao m ∧ (ao = none → m = [] ∧ c = 0) ∧ Below w.heap.size w w'
set_option maxHeartbeats 1000000 in
theorem bytesOf_anyN {w : World} {B g : Nat} {iv kv : Value} {I : List UInt8} {K : List Ke} (H : IsSt w B g iv kv I K) (hI : I.length ≤ 1048576) (s : ByteArray) (a b : Nat) (hab : a ≤ b) (hb : b ≤ I.length) :
    Calls Try.prog 35 #[.pointer (some ⟨g, 0, none⟩), .agg #[.string s, .int .i64 (a : Int), .int .i64 (b : Int)]] w (BOfN w (seg I a b)) := by
  have hal : Below w.heap.size w (w.alloc (.cells #[.string s, .int .i64 (a : Int), .int .i64 (b : Int)] 83)) := (Below.refl _ _).alloc (Nat.le_refl _) _
  have hnew := heap_alloc_new w (.cells #[.string s, .int .i64 (a : Int), .int .i64 (b : Int)] 83)
  have n1 : (w.alloc (.cells #[.string s, .int .i64 (a : Int), .int .i64 (b : Int)] 83)).cell? ⟨w.heap.size, 1, none⟩ = some (.int .i64 (a : Int)) := by rw [cell_of_row _ _ _ _ _ _ hnew]; rfl
  have n2 : (w.alloc (.cells #[.string s, .int .i64 (a : Int), .int .i64 (b : Int)] 83)).cell? ⟨w.heap.size, 2, none⟩ = some (.int .i64 (b : Int)) := by rw [cell_of_row _ _ _ _ _ _ hnew]; rfl
  have c0 := (H.below hal).c0
  have HI := hide ((H.below hal).img)
  have HA := hide hal
  have mixed := mixedS
  have hsl := seg_len hab hb
  have i1 : ((a : Nat) : Int) ≤ ((b : Nat) : Int) := by omega
  clear H hal hnew
  go_enter Try.func35, Try.ntmps35
  go_wp2_with fail
  generalize (w.alloc (.cells #[.string s, .int .i64 (a : Int), .int .i64 (b : Int)] 83)) = W at *
  rcases (unhide HI).shape with ⟨hv, hI0⟩ | ⟨ib, ic, hv, _, _, hn, hm, hbt⟩
  · subst hv hI0
    have b0 : b = 0 := by simpa using hb
    have a0 : a = 0 := by omega
    subst b0 a0
    go_quiet (fail)
    go_wp2
    go_ret
    exact ⟨none, 0, by simp [seg], fun i hi => by simp [seg] at hi, fun _ => ⟨by simp [seg], rfl⟩, (unhide HA).trans ⟨rfl, rfl, rfl, Nat.le_refl _, fun _ _ => rfl⟩⟩
  · subst hv
    have HBT := hide hbt
    clear hbt
    have i2 : ((b : Nat) : Int) ≤ ((ic : Nat) : Int) := by omega
    have i3 : b ≤ ic := by omega
    have hm2 : ic ≤ 9223372036854775807 := by unfold maxLen at hm; omega
    by_cases hq : ic = a
    · subst hq
      have b0 : b = ic := by omega
      subst b0
      go_quiet (fail)
      go_wp2
      go_ret
      exact ⟨_, _, by rw [hsl, Nat.sub_self]; rfl, (fun i hi => by rw [hsl] at hi; omega), (fun e => by cases e), (unhide HA).trans ⟨rfl, rfl, rfl, Nat.le_refl _, fun _ _ => rfl⟩⟩
    · go_quiet (fail)
      go_wp2
      go_ret
      exact ⟨_, _, by rw [hsl]; rfl, (BAt.segS (unhide HBT) hb hab), (fun e => by cases e), (unhide HA).trans ⟨rfl, rfl, rfl, Nat.le_refl _, fun _ _ => rfl⟩⟩
def PackPost (w : World) (I : List UInt8) (K : List Ke) (e : Ending) (w' : World) : Prop := ∃ g iv kv I' K', e = .returned (.pointer (some ⟨g, 0, none⟩)) ∧ IsSt w' w.heap.size g iv kv I' K' ∧ PkS I K I' K' ∧ Below w.heap.size w w'
theorem PkS.big {I : List UInt8} {K : List Ke} {k : Nat} {I' : List UInt8} {K' : List Ke} (h : PkS I (K.take k) I' K') : I'.length ≤ 1048576 := by
  have h1 := h.im.op
  unfold openS at h1
  split at h1
  · cases h1
  · omega
theorem PutS_ok {w : World} {B g : Nat} {iv kv : Value} {I : List UInt8} {K : List Ke} (s : ByteArray) (ao : Option Addr) (c : Nat) (m : List UInt8) (H : IsSt w B g iv kv I K) (hI : I.length ≤ 1048576) (hok : OkK K) (h0 : putE I K s m = 0) (hb : BAt w ao m) (hn : ao = none → m = [] ∧ c = 0) :
    Calls Try.prog 22 #[.pointer (some ⟨g, 0, none⟩), .string s, .slice ao m.length c] w fun e w' => ∃ v iv' kv', e = .returned (.tuple #[v, .int .i64 0]) ∧ IsSt w' B g iv' kv' (I ++ recK s m) (putK I K s m) ∧ Kept (SA g iv kv) w w' := by
  obtain ⟨h1, h2, -, -⟩ := putE_ok h0
  refine (PutS_any s ao c m H hI hok (name_le h1) hb hn (by omega)).mono ?_
  rintro e w' (⟨cc, hcc, -, hcn, -, -⟩ | ⟨-, v, iv', kv', rfl, hst, -, hk, -⟩)
  · exact absurd (hcc.symm.trans h0) hcn
  · exact ⟨v, iv', kv', rfl, hst, hk⟩
theorem Bx.keepSK {w w1 : World} {B g b : Nat} {iv kv : Value} {I : List UInt8} {K : List Ke} {t : TypeId} {cs : Array Value} (hb : Bx w b t cs) (h : IsSt w B g iv kv I K) (hk : Kept (SA g iv kv) w w1) (h1 : t ≠ 71) (h2 : t ≠ 5) (h3 : kv.ownBlock ≠ some b) : Bx w1 b t cs := by
  unfold Bx at hb ⊢
  rw [hk.block b (Bx.lt hb) (fun hS => ?_)]
  · exact hb
  · rcases hS with hS | hS | hS
    · exact ty_ne hb h.row h1 hS
    · obtain ⟨cur2, hc⟩ := h.ity _ hS
      exact ty_ne hb hc h2 rfl
    · exact h3 hS
set_option maxRecDepth 20000 in
set_option maxHeartbeats 2000000 in
theorem PackS_any {w : World} {B g : Nat} {iv kv : Value} {I : List UInt8} {K : List Ke} (H : IsSt w B g iv kv I K) (hI : I.length ≤ 1048576) (hok : OkK K) (hen : EnK I.length K) :
    Calls Try.prog 13 #[.pointer (some ⟨g, 0, none⟩)] w (PackPost w I K) := by
  obtain ⟨ka, kc, hkv, hkn, hkc⟩ := H.kep.at
  subst hkv
  have HH := hide H
  have HOK := hide hok
  have HEN := hide hen
  have hK16 : K.length ≤ 16 := hok.few
  have HKC := hide hkc
  have HM := hide (isMadeS_yes H)
  clear H hok hen hkn hkc
  have mixed := mixedS
  go_enter Try.func13, Try.ntmps13
  go_upto_region 3 with (go_at_call 31; with_reducible refine (unhide HM).mono ?_; rintro e W ⟨rfl, rfl⟩)
  go_wp2_with fail
  refine (NewS_any W).mono ?_
  rintro e W1 ⟨rfl, hst1, hb1⟩
  have HS1 := hide ((unhide HH).below hb1)
  have HT1 := hide hst1
  have HB1 := hide hb1
  have c1 := (unhide HS1).c1
  clear hst1 hb1
  go_wp2_with fail
  go_loopw [15] (fun i wr => ∃ (k : Nat) (ip kp : Value) (I' : List UInt8) (K' : List Ke), k ≤ K.length ∧ i = .int .i64 k ∧ Hid (IsSt wr W.heap.size W.heap.size ip kp I' K') ∧ Hid (PkS I (K.take k) I' K') ∧ Hid (Below W.heap.size W wr)) (fun i _ => K.length - (intOf i).toNat)
  case atStart => exact ⟨0, _, _, _, _, by omega, rfl, HT1, hide (PkS.zero I), HB1⟩
  case round =>
    clear HT1 HB1 c1 HS1
    obtain ⟨k, ip, kp, I', K', hk, rfl, HTr, HPr, HBr⟩ := hrel
    by_cases hlt : k < K.length
    · have i1 : ((k : Nat) : Int) < ((K.length : Nat) : Int) := by omega
      have hx := List.getElem?_eq_getElem hlt
      obtain ⟨x, hxe⟩ : ∃ x, x = K[k] := ⟨_, rfl⟩
      rw [← hxe] at hx
      have HS0 := hide ((unhide HH).below (unhide HBr))
      obtain ⟨ao2, cap2, hv2, -, hc2⟩ := (unhide HS0).kep.at
      injection hv2 with hv2 hl2 hcp2
      clear hl2
      subst hcp2
      obtain ⟨b, hb, q0, q1, q2⟩ := hc2 k x hx
      rw [hb] at hv2
      subst hv2
      clear hc2 hb
      have hen1 := unhide HEN x (List.mem_of_getElem? hx)
      have HXE := hide hx
      clear hxe hx
      obtain ⟨nm, fr, to_⟩ := x
      dsimp only at q0 q1 q2 hen1
      go_upto_region 7 with fail
      have hal : Below wr.heap.size wr (wr.alloc (.cells #[.string nm, .int .i64 (fr : Int), .int .i64 (to_ : Int)] 83)) := (Below.refl _ _).alloc (Nat.le_refl _) _
      have HX1 : Hid (Bx (wr.alloc (.cells #[.string nm, .int .i64 (fr : Int), .int .i64 (to_ : Int)] 83)).drew wr.heap.size 83 #[.string nm, .int .i64 (fr : Int), .int .i64 (to_ : Int)]) := hide (heap_alloc_new wr _)
      have HB1 : Hid (Below W.heap.size W (wr.alloc (.cells #[.string nm, .int .i64 (fr : Int), .int .i64 (to_ : Int)] 83)).drew) := hide ((unhide HBr).trans (hal.drew.mono (unhide HBr).size))
      have HS1 := hide ((unhide HS0).below hal.drew)
      have HT1 := hide ((unhide HTr).below hal.drew)
      have HNE : Hid (∀ q, kp.ownBlock = some q → q < wr.heap.size) := hide (fun q e => (World.ownsRow.lt (unhide HTr).kep q e).2)
      clear hal q0 q1 q2 HS0 HTr
      refine wp_region_held_drew (S := fun w' => Bx w' wr.heap.size 83 #[.string nm, .int .i64 (fr : Int), .int .i64 (to_ : Int)]) mixed (unhide HX1) (fun hS => ?_)
      generalize (wr.alloc (.cells #[.string nm, .int .i64 (fr : Int), .int .i64 (to_ : Int)] 83)).drew = Wd at hS HX1 HB1 HS1 HT1 ⊢
      generalize wr.heap.size = bx at hS HX1 HNE ⊢
      refine wpAnyH_take (i := 4) (v := .agg #[.string nm, .int .i64 (fr : Int), .int .i64 (to_ : Int)]) rfl (by kernel_rfl) (by kernel_rfl) (by kernel_rfl) (fun _ _ _ h => h) (Or.inl ⟨by rfl, fun W h => by have h0 := h.c 0 rfl; have h1 := h.c 1 rfl; have h2 := h.c 2 rfl; go_simp⟩) hS ?_
      go_simp
      refine wpAnyH_take (i := 1) (v := .pointer (some ⟨bx, 0, none⟩)) rfl (by kernel_rfl) (by kernel_rfl) (by kernel_rfl) (fun _ _ _ h => h) (Or.inl ⟨by rfl, fun W _ => by go_simp⟩) hS ?_
      go_simp
      refine wpAnyH_take (i := 2) (v := .string nm) rfl (by kernel_rfl) (by kernel_rfl) (by kernel_rfl) (fun _ _ _ h => h) (Or.inl ⟨by rfl, fun W h => by have h0 := h.c 0 rfl; go_simp⟩) hS ?_
      go_simp
      refine wpAnyH_take (i := 0) (v := .pointer (some ⟨W.heap.size, 0, none⟩)) rfl (by kernel_rfl) (by kernel_rfl) (by kernel_rfl) (fun _ _ _ h => h) (Or.inl ⟨by rfl, fun W _ => by go_simp⟩) hS ?_
      go_simp
      refine wpAnyH_take (i := 3) (v := .pointer (some ⟨g, 0, none⟩)) rfl (by kernel_rfl) (by kernel_rfl) (by kernel_rfl) (fun _ _ _ h => h) (Or.inl ⟨by rfl, fun W _ => by go_simp⟩) hS ?_
      go_simp
      have HC := hide (bytesOf_anyN (unhide HS1) hI nm fr to_ hen1.1 hen1.2.1)
      refine wpAnyH_ready (rs := [5]) (by kernel_rfl) (by simp) ?_
      refine AllReadyH.cons rfl (fun KK hK => ?_) AllReadyH.nil
      go_simp
      go_wp2_with (go_at_call 35; (with_reducible refine (unhide HC).mono ?_); rintro e W2 ⟨a2, c2, rfl, hB2, hn2, hb2⟩)
      have HT2 := hide ((unhide HT1).below hb2)
      have HX2 := hide ((unhide HX1).below hb2)
      have HB2 := hide ((unhide HB1).trans (hb2.mono (unhide HB1).size))
      obtain ⟨hc0, hps⟩ := (unhide HPr).step (unhide HOK) (unhide HEN) (unhide HXE)
      have HPS := hide hps
      have HPt := hide (PutS_ok nm a2 c2 (seg I fr to_) (unhide HT2) (unhide HPr).big (unhide HPr).ok hc0 hB2 hn2)
      refine hK.out _ _ (unhide HX2) (fun hS2 => ?_)
      clear hK KK hS hb2 HT1 HX1 HB1 HS1
      refine wpAnyH_ready (rs := [6]) (by kernel_rfl) (by simp) ?_
      refine AllReadyH.cons rfl (fun KK hK => ?_) AllReadyH.nil
      go_simp
      go_wp2_with (go_at_call 22; (with_reducible refine (unhide HPt).mono ?_); rintro e W4 ⟨v4, iv4, kv4, rfl, hst, hk4⟩)
      have HT4 := hide hst
      have HB4 := hide ((unhide HB2).trans (below_SA (unhide HT2) hk4))
      have HX4 := hide ((unhide HX2).keepSK (unhide HT2) hk4 (by decide) (by decide) (fun e => Nat.lt_irrefl _ (unhide HNE _ e)))
      refine hK.out _ _ (unhide HX4) (fun hS4 => ?_)
      clear hK KK hS2 hst hk4 HT2 HB2 HPt
      refine wpAnyH_done (by kernel_rfl) ?_ _
      go_wp2
      go_roundw
      case rel => exact ⟨k + 1, iv4, kv4, _, _, by omega, by go_num, HT4, HPS, HB4⟩
      case measure => simp [intOf]; omega
    · have i1 : ¬ ((k : Nat) : Int) < ((K.length : Nat) : Int) := by omega
      have hkk : k = K.length := by omega
      have hps := unhide HPr
      rw [hkk, List.take_length] at hps
      have HPS := hide hps
      clear hps hkk HPr
      go_wp2
      go_ret
      exact ⟨_, _, _, _, _, rfl, unhide HTr, unhide HPS, unhide HBr⟩
end Go.Proofs.Ytkcnkfhdbjiggaa
