/-
  Order has each block's number once, block 0 first; without rings each block that is come to stands ahead of those to which it leads. Plain.
-/
import Derived.Test.YtdpfinnclnapbaaAh1
import Derived.Test.YtdpfinnclnapbaaOd2
import Derived.Test.YtdpfinnclnapbaaFp1
namespace Go.Proofs.Ytdpfinnclnapbaa
open Go.RowKit

theorem unm_fls (B : List Bool) : (unm B B.length).length = fls B := by
  have e : B = (List.range B.length).map (fun i => B.getD i false) := by
    apply List.ext_getElem
    · simp
    · intro i h1 h2
      simp [h1]
  have e2 : fls B = (((List.range B.length).map (fun i => B.getD i false)).filter (fun b => !b)).length := by rw [← e]; rfl
  rw [e2, List.filter_map, List.length_map]
  rfl
theorem lvO_P {G : List Bx} (h : 1 ≤ G.length) : LvP (suG G) (List.replicate G.length false) (lvO G).1 (lvO G).2 ∧ (lvO G).1[0]? = some true :=
  lvF_P (suG G) G.length 0 (List.replicate G.length false) (by rw [List.getElem?_replicate, if_pos (by omega)]) (by rw [fls_rep]; exact Nat.le_refl _)
theorem rep_no {n x : Nat} : (List.replicate n false)[x]? ≠ some true := by
  rw [List.getElem?_replicate]
  split <;> simp
theorem lvO_vis {G : List Bx} (h : 1 ≤ G.length) (x : Nat) : (lvO G).1[x]? = some true ↔ x ∈ (lvO G).2 := by
  rw [(lvO_P h).1.bt]
  constructor
  · rintro (h | h)
    · exact absurd h rep_no
    · exact h
  · exact fun h => .inr h
theorem ordD_eq {G : List Bx} (h : 1 ≤ G.length) : ordD G = (lvO G).2.reverse ++ unm (lvO G).1 G.length := by unfold ordD; rw [if_neg (by omega)]
theorem ordD_length (G : List Bx) : (ordD G).length = G.length := by
  rcases Nat.eq_zero_or_pos G.length with h | h
  · unfold ordD; rw [if_pos h, h]; rfl
  · rw [ordD_eq h, List.length_append, List.length_reverse]
    have h1 := lvO_ct (G := G) h
    have h2 := unm_fls (lvO G).1
    rw [lvO_len] at h2
    omega
theorem lvO_last {G : List Bx} (h : 1 ≤ G.length) : ∃ s, (lvO G).2 = s ++ [0] := by
  unfold lvO
  obtain ⟨m, hm⟩ : ∃ m, G.length = m + 1 := ⟨G.length - 1, by omega⟩
  rw [hm]
  exact ⟨_, rfl⟩
theorem ordD_first {G : List Bx} (h : 1 ≤ G.length) : ∃ t, ordD G = 0 :: t := by
  obtain ⟨s, hs⟩ := lvO_last h
  rw [ordD_eq h, hs, List.reverse_append]
  exact ⟨_, rfl⟩
theorem ordD_mem {G : List Bx} {i : Nat} (hi : i < G.length) : i ∈ ordD G := by
  rw [ordD_eq (by omega), List.mem_append, List.mem_reverse]
  by_cases h : (lvO G).1[i]? = some true
  · exact .inl ((lvO_vis (by omega) i).1 h)
  · refine .inr ?_
    unfold unm
    rw [List.mem_filter]
    refine ⟨by simpa using hi, ?_⟩
    rw [List.getD_eq_getElem?_getD]
    have hl := lvO_len G
    rw [List.getElem?_eq_getElem (by omega)] at h ⊢
    cases hb : (lvO G).1[i]'(by omega) with
    | false => rfl
    | true => rw [hb] at h; exact absurd rfl h
theorem suG_far {G : List Bx} {x : Nat} (h : G.length ≤ x) : suG G x = [] := by
  unfold suG
  rw [List.getElem?_eq_none h]
/-- Where there are no rings, what is come to stands ahead of that to which it leads. -/
theorem ordD_top {G : List Bx} (hA : ∀ i, i < G.length → ∀ k, some k ∈ suG G i → ¬ Str (suG G) k i) {i j : Nat} (hi : (lvO G).1[i]? = some true) (hl : 1 ≤ G.length) (hj : some j ∈ suG G i) : (ordD G).idxOf i < (ordD G).idxOf j := by
  have hac : Acy (suG G) := fun x k hk => by
    rcases Nat.lt_or_ge x G.length with h | h
    · exact hA x h k hk
    · rw [suG_far h] at hk; cases hk
  have ht := lvF_T hac G.length 0 (List.replicate G.length false) [] (fun x hx => absurd hx rep_no) (by rw [List.getElem?_replicate, if_pos (by omega)]) (by rw [fls_rep]; exact Nat.le_refl _)
  rw [List.length_replicate] at ht
  have ht : TopO (suG G) G.length [] (lvO G).2 := ht
  have him := (lvO_vis hl i).1 hi
  obtain ⟨s1, s2, hs⟩ := List.append_of_mem him
  have hjl : j < G.length := by
    obtain ⟨t, htt⟩ := List.mem_iff_getElem?.1 hj
    exact suG_in htt
  have hj1 : j ∈ s1 := by
    rcases ht s1 i s2 hs j hj hjl with h | h
    · cases h
    · exact h
  have hnd := (lvO_P hl).1.nd
  rw [hs] at hnd
  obtain ⟨_, hn2, hn3⟩ := List.nodup_append.1 hnd
  have hi2 : i ∉ s2 := (List.nodup_cons.1 hn2).1
  have hj2 : j ∉ s2 := fun h => hn3 j hj1 j (List.mem_cons_of_mem _ h) rfl
  have hji : i ≠ j := fun h => hn3 j hj1 i (by simp) h.symm
  have e : ordD G = s2.reverse ++ (i :: (s1.reverse ++ unm (lvO G).1 G.length)) := by
    rw [ordD_eq hl, hs]
    simp
  rw [e, List.idxOf_append, List.idxOf_append, if_neg (by simpa using hi2), if_neg (by simpa using hj2), List.idxOf_cons_self, List.idxOf_cons]
  have e3 : (i == j) = false := by simpa using hji
  rw [e3]
  simp only [cond_false]
  omega

theorem begN_lt2 {l : List Ix} {i k : Nat} (hk : k < (ldN l l.length).length) (h : i < k) : begN l (ldN l l.length) i < begN l (ldN l l.length) k := by
  rw [begN_lt hk, begN_lt (show i < (ldN l l.length).length by omega)]
  exact List.pairwise_iff_getElem.1 (ldN_pair l l.length) i k (by omega) hk h
theorem blk_eq {n : Nat} {l : List Ix} (hc : Chn n 0 l) {M : List Bx} (hM : M.map Bx.pl = bkD l) {k : Nat} {y : Bx} (hy : M[k]? = some y) : M.length = (ldN l l.length).length ∧ y.fr = pD l (begN l (ldN l l.length) k) ∧ y.nx = nxD l (begN l (ldN l l.length) (k + 1) - 1) := by
  have hr := (rsB_iff l).2 hc.rises
  have hk := (List.getElem?_eq_some_iff.1 hy).1
  have hlen : M.length = (ldN l l.length).length := by
    have := congrArg List.length hM
    unfold bkD at this
    rw [if_pos hr] at this
    simpa using this
  have hk2 : k < (ldN l l.length).length := by omega
  have hpl : y.pl = blkN l (ldN l l.length) k := by
    have h1 : (M.map Bx.pl)[k]? = some y.pl := by rw [List.getElem?_map, hy]; rfl
    rw [hM] at h1
    unfold bkD at h1
    rw [if_pos hr, List.getElem?_map, List.getElem?_range hk2] at h1
    exact (Option.some.inj h1).symm
  have h1 : y.fr = pD l ((ldN l l.length).getD k 0) := congrArg (fun q => q.1) hpl
  have h3 : y.nx = nxD l (endN l (ldN l l.length) k - 1) := congrArg (fun q => q.2.2) hpl
  refine ⟨hlen, ?_, h3⟩
  rw [h1]
  unfold begN
  rw [if_pos hk2]
/-- What is come to by instructions lies in blocks that are come to. -/
theorem rch_blk {n : Nat} {l : List Ix} (hc : Chn n 0 l) (hn : n ≤ 4096) (hl : 1 ≤ l.length) {G : List Bx} (hM : G.map Bx.pl = bkD l) {a : Int} (h : Rch l 0 a) : ∃ (k i : Nat) (x : Ix), k < G.length ∧ begN l (ldN l l.length) k ≤ i ∧ i < begN l (ldN l l.length) (k + 1) ∧ l[i]? = some x ∧ x.p = a ∧ (lvO G).1[k]? = some true := by
  obtain ⟨hb0, hls⟩ := begN_zero hl
  have hlen : G.length = (ldN l l.length).length := by
    have hr := (rsB_iff l).2 hc.rises
    have := congrArg List.length hM
    unfold bkD at this
    rw [if_pos hr] at this
    simpa using this
  have hg : 1 ≤ G.length := by omega
  induction h with
  | here h0 =>
    obtain ⟨x, hx⟩ : ∃ x, l[0]? = some x := ⟨_, List.getElem?_eq_getElem (by omega)⟩
    refine ⟨0, 0, x, hg, by omega, ?_, hx, ?_, (lvO_P hg).2⟩
    · obtain ⟨y, hy⟩ : ∃ y, G[0]? = some y := ⟨_, List.getElem?_eq_getElem (by omega)⟩
      have := (blk_of hc hn hM hy).lo
      omega
    · cases l with
      | nil => simp at hx
      | cons z t =>
        simp at hx
        subst hx
        exact hc.1
  | next ha hi hx hb hh ih =>
    rename_i a b i0 x0
    obtain ⟨k, i, x, hk, h1, h2, hxi, hxp, hv⟩ := ih
    obtain ⟨z, hz, hzp⟩ := pI_some hi
    have hii : i0 = i := rs_inj hc.rises hz hxi (by rw [hzp, hxp])
    subst hii
    rw [hxi] at hx
    injection hx with hx
    subst hx
    obtain ⟨y, hy⟩ : ∃ y, G[k]? = some y := ⟨_, List.getElem?_eq_getElem hk⟩
    have hblk := blk_of hc hn hM hy
    obtain ⟨_, _, hynx⟩ := blk_eq hc hM hy
    by_cases hlast : i0 + 1 < begN l (ldN l l.length) (k + 1)
    · have hnx := List.getElem?_eq_getElem (show i0 + 1 < l.length by have := hblk.hi; omega)
      have hgap := hblk.gap i0 x _ h1 hlast hxi hnx
      rw [hgap] at hb
      exact ⟨k, i0 + 1, _, hk, by omega, hlast, hnx, (List.mem_singleton.1 hb).symm, hv⟩
    · have hie : begN l (ldN l l.length) (k + 1) - 1 = i0 := by omega
      have hbn : b ∈ y.nx := by
        rw [hynx, hie]
        unfold nxD
        rw [hxi]
        exact List.mem_filter.2 ⟨hb, hh⟩
      obtain ⟨j, hj⟩ := hblk.ways b hbn
      obtain ⟨yj, hyj, hyf⟩ := frI_some hj
      have hjl := (List.getElem?_eq_some_iff.1 hyj).1
      have hjb := blk_of hc hn hM hyj
      have hxj := List.getElem?_eq_getElem (show begN l (ldN l l.length) j < l.length by have := hjb.lo; have := hjb.hi; omega)
      refine ⟨j, begN l (ldN l l.length) j, _, hjl, Nat.le_refl _, hjb.lo, hxj, ?_, ?_⟩
      · rw [← hjb.frm _ hxj, hyf]
      · have hs : some j ∈ suG G k := by
          rw [suG_at hy, List.mem_map]
          exact ⟨b, hbn, hj⟩
        have := (lvO_P hg).1.cl k ((lvO_vis hg k).1 hv) j hs (by rw [List.length_replicate]; exact hjl)
        exact this
/-- The law's claim of each way. -/
theorem ahead_ok {n : Nat} {l : List Ix} (hc : Chn n 0 l) (hn : n ≤ 4096) (hl : 1 ≤ l.length) {G : List Bx} (hM : G.map Bx.pl = bkD l) (hA : ∀ i, i < G.length → ∀ k, some k ∈ suG G i → ¬ Str (suG G) k i) {i j : Nat} {y : Bx} {a : Int} (hy : G[i]? = some y) (ha : a ∈ y.nx) (hj : frI G a = some j) (hr : Rch l 0 y.fr) : (ordD G).idxOf i < (ordD G).idxOf j := by
  obtain ⟨k, q, x, hk, h1, h2, hx, hxp, hv⟩ := rch_blk hc hn hl hM hr
  have hi := (List.getElem?_eq_some_iff.1 hy).1
  have hblk := blk_of hc hn hM hy
  obtain ⟨hlen, _, _⟩ := blk_eq hc hM hy
  have hxi := List.getElem?_eq_getElem (show begN l (ldN l l.length) i < l.length by have := hblk.lo; have := hblk.hi; omega)
  have hqi : q = begN l (ldN l l.length) i := rs_inj hc.rises hx hxi (by rw [hxp, hblk.frm _ hxi])
  have hki : k = i := by
    rcases Nat.lt_trichotomy k i with g | g | g
    · have : begN l (ldN l l.length) (k + 1) ≤ begN l (ldN l l.length) i := by
        rcases Nat.eq_or_lt_of_le (show k + 1 ≤ i by omega) with e | e
        · rw [e]; exact Nat.le_refl _
        · exact Nat.le_of_lt (begN_lt2 (by omega) e)
      omega
    · exact g
    · have := begN_lt2 (l := l) (show k < (ldN l l.length).length by omega) g
      omega
  subst hki
  exact ordD_top hA hv (by omega) (by rw [suG_at hy, List.mem_map]; exact ⟨a, ha, hj⟩)
end Go.Proofs.Ytdpfinnclnapbaa
