/-
  Contracts of the store's keep and lose: an entry stands in the place of that of its name, or among the others; the entry of a name is taken away.
-/
import Derived.Test.YtkiijdcpfbnacaaGreatDoorSr5
import Derived.Deep.RegionWith
import Derived.BigRegion
namespace Go.Proofs.YtkiijdcpfbnacaaGreatDoor
open Go.RowKit
set_option maxRecDepth 20000

theorem Insert_anyS {w : World} {B : Nat} {v : Value} {vb : Nat} {K : List Ke} (e : Ke) (i : Nat) (h : OwnK w B v K) (hv : OneK w vb e) (hne : v.ownBlock ≠ some vb) (hi : i ≤ K.length) (hl : K.length ≤ 4096) (hB : B ≤ w.heap.size) :
    Calls Tryz.prog 145 #[v, .int .i64 ((i : Nat) : Int), .slice (some ⟨vb, 0, none⟩) 1 1] w (InsPost w B v (K.take i ++ e :: K.drop i)) := by
  obtain ⟨a, cap, rfl, hn, _⟩ := h.at
  by_cases hik : i = K.length
  · subst hik
    rw [List.take_length, List.drop_length]
    exact Insert_end e h hv hl hB
  · have hp : i < K.length := by omega
    obtain ⟨g, rfl⟩ : ∃ g, a = some ⟨g, 0, none⟩ := by
      rcases h.2 with ⟨_, h2⟩ | ⟨g', cap', cur, hv, r⟩
      · omega
      · injection hv with hv _ _
        exact ⟨g', hv⟩
    by_cases hroom : K.length + 1 ≤ cap
    · exact Insert_room e i h hv (fun e => hne (by rw [e]; rfl)) hp hroom hl
    · exact Insert_grow e i h hv hp hroom hl hB
theorem IsSt.kg {w : World} {B g : Nat} {iv kv : Value} {I : List UInt8} {K : List Ke} (h : IsSt w B g iv kv I K) : kv.ownBlock ≠ some g := fun e => by
  obtain ⟨cur, hc⟩ := h.kty g e
  rw [h.row] at hc
  injection hc with hc
  injection hc with _ hc _
  exact absurd hc (by decide)
theorem IsSt.ig {w : World} {B g : Nat} {iv kv : Value} {I : List UInt8} {K : List Ke} (h : IsSt w B g iv kv I K) : iv.ownBlock ≠ some g := fun e => by
  obtain ⟨cur, hc⟩ := h.ity g e
  rw [h.row] at hc
  injection hc with hc
  injection hc with _ hc _
  exact absurd hc (by decide)
theorem IsSt.ik {w : World} {B g : Nat} {iv kv : Value} {I : List UInt8} {K : List Ke} (h : IsSt w B g iv kv I K) : ∀ k, iv.ownBlock = some k → kv.ownBlock ≠ some k := fun k e e2 => by
  obtain ⟨cur, hc⟩ := h.ity k e
  obtain ⟨cur2, hc2⟩ := h.kty k e2
  rw [hc] at hc2
  injection hc2 with hc2
  injection hc2 with _ hc2 _
  exact absurd hc2 (by decide)
/-- Its entries' row is laid anew. -/
theorem IsSt.setK {w w1 : World} {B g : Nat} {iv kv kv' : Value} {I : List UInt8} {K K' : List Ke} (h : IsSt w B g iv kv I K) (hO : OwnK w1 B kv' K') (hk : Kept (fun k => kv.ownBlock = some k) w w1) : IsSt (w1.setCell ⟨g, 1, none⟩ kv') B g iv kv' I K' ∧ Kept (ST g kv) w (w1.setCell ⟨g, 1, none⟩ kv') := by
  have hrow : w1.heap[g]? = some (.cells #[iv, kv, .bool true] 164 (0, 0)) := by rw [hk.block g h.gl h.kg]; exact h.row
  have hgl1 : g < w1.heap.size := (Array.getElem?_eq_some_iff.1 hrow).1
  have hs := kept_setCell w1 ⟨g, 1, none⟩ kv'
  have hkn : kv'.ownBlock ≠ some g := fun e => by
    rcases hO.2 with ⟨h1, _⟩ | ⟨g', cap, cur, hv, hbg, hh, r⟩
    · rw [h1] at e; cases e
    · rw [hv] at e
      injection e with e
      subst e
      rw [hrow] at hh
      injection hh with hh
      injection hh with _ hh _
      exact absurd hh (by decide)
  refine ⟨⟨?_, h.low, (h.img.keep hk (fun k e => h.ik k e)).keep hs (fun k e e2 => h.ig (by rw [e, e2])), hO.keep hs (fun k e e2 => hkn (by rw [e, e2]))⟩, hk.trans hs (fun k _ e => Or.inr e) (fun k _ e => Or.inl e)⟩
  rw [setCell_eq_setRow w1 g 1 #[iv, kv, .bool true] 164 (0, 0) kv' hrow]
  exact setRow_heap w1 g _ _ _ _ hrow
def KeepPost (w : World) (B g : Nat) (iv kv : Value) (I : List UInt8) (K' : List Ke) (r : Value) (e : Ending) (w' : World) : Prop := ∃ kv', e = .returned r ∧ IsSt w' B g iv kv' I K' ∧ Kept (ST g kv) w w'
set_option maxHeartbeats 4000000 in
theorem lose_anyS {w : World} {B g : Nat} {iv kv : Value} {I : List UInt8} {K : List Ke} (s : ByteArray) (H : IsSt w B g iv kv I K) (hok : Asc (kNm K)) (hlen : K.length ≤ 4096) :
    Calls Tryz.prog 108 #[.pointer (some ⟨g, 0, none⟩), .string s] w (KeepPost w B g iv kv I (cutN (posN (kNm K) s) (hasN (kNm K) s) K) (.bool (hasN (kNm K) s))) := by
  have HF := hide (find_anyS s w H hok hlen)
  cases hh : hasN (kNm K) s
  · rw [hh] at HF
    have HH := hide H
    clear H
    go_enter Tryz.func108, Tryz.ntmps108
    go_wp2_with (go_at_call 127; refine (unhide HF).mono ?_; rintro e W ⟨rfl, hb⟩)
    go_ret
    have e0 : cutN (posN (kNm K) s) false K = K := by unfold cutN; simp
    exact ⟨kv, rfl, by rw [e0]; exact (unhide HH).below hb, Kept.of_below hb _⟩
  · rw [hh] at HF
    have hlt := has_lt hh
    rw [kNm_len] at hlt
    obtain ⟨kb, cap, rfl⟩ : ∃ kb cap, kv = .slice (some ⟨kb, 0, none⟩) K.length cap := by
      rcases H.kep.2 with ⟨_, h2⟩ | ⟨g', cap', cur, hv, r⟩
      · omega
      · exact ⟨g', cap', hv⟩
    generalize posN (kNm K) s = p at HF hlt ⊢
    have HH := hide H
    clear H
    go_enter Tryz.func108, Tryz.ntmps108
    go_wp2_with fail
    refine (unhide HF).mono ?_
    rintro e W ⟨rfl, hb⟩
    have HW := hide ((unhide HH).below hb)
    have HB := hide hb
    have c1 := (unhide HW).c1
    have HD := hide (Delete_anyS p (unhide HW).kep hlt hlen)
    clear HF hb
    go_wp2_with fail
    refine (unhide HD).mono ?_
    rintro e W1 ⟨rfl, hO, hk⟩
    have hX := (unhide HW).setK hO (hk.mono (fun k _ e => by rw [e]; rfl))
    have c1' : W1.cell? ⟨g, 1, none⟩ = some (.slice (some ⟨kb, 0, none⟩) K.length cap) := by
      have := (unhide HW).c1
      rwa [← World.cell?_of_block (hk.block g (unhide HW).gl (fun e => (unhide HW).kg (by rw [e]; rfl)))] at this
    have f1 : W1.frozen? ⟨g, 1, none⟩ = false := by
      have e := hk.block g (unhide HW).gl (fun e => (unhide HW).kg (by rw [e]; rfl))
      exact frozen_of_row _ _ _ _ _ (e.trans (unhide HW).row)
    have HX := hide hX
    clear hX hO hk HD c1
    go_wp2
    go_ret
    exact ⟨_, rfl, (unhide HX).1, (Kept.of_below (unhide HB) (ST g _)).trans (unhide HX).2 (fun _ _ h => h) (fun _ _ h => h)⟩
end Go.Proofs.YtkiijdcpfbnacaaGreatDoor
