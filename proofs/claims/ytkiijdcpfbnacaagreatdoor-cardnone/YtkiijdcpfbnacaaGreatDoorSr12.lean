/-
  The contract of a store's Names: the names of its entries, in new memory.
-/
import Derived.Test.YtkiijdcpfbnacaaGreatDoorSr11
namespace Go.Proofs.YtkiijdcpfbnacaaGreatDoor
open Go.RowKit
set_option maxRecDepth 20000

theorem infoStr : (Tryz.prog.info? 9).map (fun i => (i.zero, i.size, i.bytes)) = some (some (.string ⟨#[]⟩), 1, 16) := by kernel_rfl
def svals (N : List ByteArray) : List Value := N.map Value.string
def OwnT (w : World) (base : Nat) (v : Value) (N : List ByteArray) : Prop := w.ownsRow base 9 1 v N.length (svals N)
theorem OwnT.keep {S : Nat → Prop} {w w' : World} {base : Nat} {v : Value} {N : List ByteArray} (h : OwnT w base v N) (hk : Kept S w w') (hs : ∀ k, v.ownBlock = some k → ¬ S k) : OwnT w' base v N := by
  refine ⟨h.1, ?_⟩
  rcases h.2 with h1 | ⟨g, cap, cur, hv, hbg, hh, r⟩
  · exact Or.inl h1
  · exact Or.inr ⟨g, cap, cur, hv, hbg, by rw [hk.block g (Array.getElem?_eq_some_iff.1 hh).1 (hs g (by rw [hv]; rfl))]; exact hh, r⟩
theorem OwnT.below {w w' : World} {base : Nat} {v : Value} {N : List ByteArray} (h : OwnT w base v N) (hb : Below w.heap.size w w') : OwnT w' base v N := h.keep (Kept.of_below hb (fun _ => False)) (fun _ _ h => h)
theorem OwnT.at {w : World} {base : Nat} {v : Value} {N : List ByteArray} (h : OwnT w base v N) : ∃ ao cap, v = .slice ao N.length cap ∧ (ao = none → N = []) ∧ ∀ (i : Nat) x, N[i]? = some x → ∃ b, ao = some ⟨b, 0, none⟩ ∧ w.cell? ⟨b, i, none⟩ = some (.string x) := by
  rcases h.2 with ⟨h1, h2⟩ | ⟨g, cap, cur, rfl, hb, hh, hn, hm, hsz, ht⟩
  · have := List.eq_nil_of_length_eq_zero h2
    subst this
    exact ⟨none, 0, h1, fun _ => rfl, fun i x hx => by simp at hx⟩
  · refine ⟨_, cap, rfl, (fun e => by cases e), fun i x hx => ⟨g, rfl, ?_⟩⟩
    have hi := (List.getElem?_eq_some_iff.1 hx).1
    rw [World.ownsRow.cellAt h i (by omega)]
    unfold svals
    rw [List.getElem?_map, hx]
    rfl
theorem snoc_take {α : Type} {L : List α} {k : Nat} {x : α} (h : L[k]? = some x) : L.take (k + 1) = L.take k ++ [x] := by
  rw [List.take_add_one, h]; rfl
set_option maxHeartbeats 4000000 in
theorem NamesS_any {w : World} {B g : Nat} {iv kv : Value} {I : List UInt8} {K : List Ke} (H : IsSt w B g iv kv I K) (hok : OkK K) :
    Calls Tryz.prog 285 #[.pointer (some ⟨g, 0, none⟩)] w fun e w' => ∃ v, e = .returned v ∧ OwnT w' w.heap.size v (kNm K) ∧ Below w.heap.size w w' := by
  obtain ⟨i0, hi0, hz0, hz1, hz2⟩ := info_parts infoStr
  have HM := hide (isMadeS_yes H)
  have HH := hide H
  have hfew := hok.few
  obtain ⟨ka, kc, hkv, _, _⟩ := H.kep.at
  have c1 := H.c1
  rw [hkv] at c1
  have HKV := hide hkv
  clear H hkv
  go_enter Tryz.func285, Tryz.ntmps285
  go_wp2_with fail
  refine (unhide HM).mono ?_
  rintro e W ⟨rfl, hw⟩
  rw [hw]
  clear hw W HM
  go_wp2_with fail
  go_loopw [3, 14] (fun v i wr => ∃ k : Nat, k ≤ K.length ∧ i = .int .i64 (k : Int) ∧ Hid (OwnT wr w.heap.size v ((kNm K).take k)) ∧ Hid (Below w.heap.size w wr)) (fun _ i _ => K.length - (intOf i).toNat)
  case atStart => exact ⟨0, by omega, rfl, hide (World.ownsRow_nil _ _ _ _), hide (Below.refl _ _)⟩
  case round =>
    obtain ⟨k, hk, rfl, HO, HB⟩ := hrel
    obtain ⟨va, vc, hv, _, _⟩ := (unhide HO).at
    have htl : ((kNm K).take k).length = k := by rw [List.length_take, kNm_len]; omega
    rw [htl] at hv
    subst hv
    by_cases hlt : k < K.length
    · have j1 : ((k : Nat) : Int) < ((K.length : Nat) : Int) := by omega
      have hx := List.getElem?_eq_getElem hlt
      generalize K[k] = x at hx
      obtain ⟨ka', kc', e, _, hat⟩ := ((unhide HH).below (unhide HB)).kep.at
      rw [unhide HKV] at e
      injection e with e1 _ e2
      subst e1
      obtain ⟨b, rfl, q0, q1, q2⟩ := hat k x hx
      have HTk : Hid ((kNm K).take (k + 1) = (kNm K).take k ++ [x.nm]) := hide (snoc_take (kNm_get hx))
      clear hat hx e2
      have al2 : Below wr.heap.size wr ((wr.alloc (.cells #[.string x.nm, .int .i64 (x.fr : Int), .int .i64 (x.to : Int)] 242)).alloc (.cells #[.string x.nm] 9)) := ((Below.refl _ _).alloc (Nat.le_refl _) _).alloc (by simp) _
      have HR1 := hide ((unhide HO).below al2)
      have HB1 := hide ((unhide HB).trans (al2.mono (unhide HB).size))
      have hbs := (unhide HB).size
      have hon : ∀ j u, [Value.string x.nm][j]? = some u → ((wr.alloc (.cells #[.string x.nm, .int .i64 (x.fr : Int), .int .i64 (x.to : Int)] 242)).alloc (.cells #[.string x.nm] 9)).cell? ((⟨wr.heap.size + 1, 0, none⟩ : Addr).add j) = some u := by
        have := cell_one_new (wr.alloc (.cells #[.string x.nm, .int .i64 (x.fr : Int), .int .i64 (x.to : Int)] 242)) (.string x.nm) 9
        rw [World.size_alloc] at this
        exact this
      have HON := hide hon
      clear hon al2
      go_wp2_with (at_builtin; refine wpList_append_own _ rfl _ _ 52 rfl w.heap.size 9 i0 _ 1 16 Tryz.underlying52 hi0 hz0 hz1 hz2 rfl (by decide) _ ((kNm K).take k).length (svals ((kNm K).take k)) rfl (unhide HR1) ⟨wr.heap.size + 1, 0, none⟩ 1 1 [.string x.nm] rfl rfl (unhide HON) (by simp [Value.oneCell']) ?a3 ?a4 ?a5 ?_)
      case a3 => unfold maxLen; omega
      case a4 => omega
      case a5 => omega
      intro v' w' hO hG _
      have HO2 : Hid (OwnT w' w.heap.size v' ((kNm K).take (k + 1))) := hide (by
        rw [unhide HTk]
        unfold OwnT svals
        rw [List.map_append, List.length_append, htl]
        exact hO)
      have HB2 := hide ((unhide HB1).grown hG (by simp; omega) (fun q e => by
        have := (World.ownsRow.lt (unhide HO) q e).1
        exact this))
      clear hO hG
      go_wp2
      go_roundw
      case rel => exact ⟨k + 1, by omega, by go_num, HO2, HB2⟩
      case measure => simp [intOf]; omega
    · have j1 : ¬ ((k : Nat) : Int) < ((K.length : Nat) : Int) := by omega
      have ek : k = K.length := by omega
      subst ek
      have HO2 : Hid (OwnT wr w.heap.size (.slice va K.length vc) (kNm K)) := hide (by
        have := unhide HO
        rwa [List.take_of_length_le (by rw [kNm_len]; omega)] at this)
      clear HO htl
      go_wp2
      go_ret
      exact ⟨_, rfl, unhide HO2, unhide HB⟩
end Go.Proofs.YtkiijdcpfbnacaaGreatDoor
