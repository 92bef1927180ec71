/-
  Blocks part instructions that stand one behind the other: plain.
-/
import Derived.Test.YtdpfinnclnapbaaBk7
import Derived.Test.YtdpfinnclnapbaaIs1
import Derived.Test.YtdpfinnclnapbaaBk6
namespace Go.Proofs.Ytdpfinnclnapbaa
open Go.RowKit

theorem Chn.le {n : Nat} : ∀ {l : List Ix} {k : Nat}, Chn n k l → k ≤ n
  | [], k, h => by have : k = n := h; omega
  | x :: t, k, h => by have := Chn.le h.2.2; omega
theorem Chn.lt {n : Nat} : ∀ {l : List Ix} {k : Nat}, Chn n k l → ∀ x ∈ l, x.p < (n : Int) ∧ 1 ≤ sizeD x.op
  | [], _, _, x, hx => by cases hx
  | y :: t, k, h, x, hx => by
    rcases List.mem_cons.1 hx with hx | hx
    · have := Chn.le h.2.2
      have h1 := h.1
      have h2 := h.2.1
      subst hx
      exact ⟨by omega, h2⟩
    · exact Chn.lt h.2.2 x hx
theorem Chn.succ {n : Nat} : ∀ {l : List Ix} {k : Nat}, Chn n k l → ∀ (i : Nat) (x y : Ix), l[i]? = some x → l[i + 1]? = some y → y.p = x.p + sizeD x.op
  | [], _, _, i, x, y, hx, _ => by simp at hx
  | z :: t, k, h, 0, x, y, hx, hy => by
    simp at hx
    subst hx
    have h1 := h.1
    cases t with
    | nil => simp at hy
    | cons u t =>
      simp at hy
      subst hy
      have := h.2.2.1
      rw [this, h1]
      omega
  | z :: t, k, h, i + 1, x, y, hx, hy => Chn.succ h.2.2 i x y (by simpa using hx) (by simpa using hy)
theorem Chn.rises {n k : Nat} {l : List Ix} (h : Chn n k l) : rsP l := fun i x y hx hy => by
  have h1 := h.succ i x y hx hy
  have h2 := (h.lt x (List.mem_of_getElem? hx)).2
  omega
theorem next_one {p : Int} {op : Nat} {a : Int} (h1 : 1 ≤ sizeD op) (h2 : 0 ≤ p) (h3 : p < 4096) (hp : prtD op = false) : nextD p op a = [p + sizeD op] := by
  unfold prtD at hp
  rw [Bool.or_eq_false_iff] at hp
  unfold nextD
  have hc : inC p = true := by unfold inC; simp [h2, h3]
  rw [if_neg (by rintro (h | h); omega; rw [hc] at h; cases h)]
  simp [hp.1, hp.2, putJ]
theorem next_in {p : Int} {op : Nat} {a b : Int} (h : b ∈ nextD p op a) : b = p + sizeD op ∨ (jmpD op = true ∧ b = a) := by
  unfold nextD at h
  split at h
  · cases h
  · simp only at h
    have h0 : ∀ z, z ∈ (if endD op then [] else putJ [] (p + sizeD op)) → z = p + sizeD op := by
      intro z hz
      split at hz
      · cases hz
      · simpa [putJ] using hz
    generalize (if endD op then [] else putJ [] (p + sizeD op)) = q at h h0
    by_cases hj : jmpD op = true
    · rw [if_pos hj] at h
      rcases mem_putJ.1 h with h | h
      · exact .inr ⟨hj, h⟩
      · exact .inl (h0 b h)
    · rw [if_neg hj] at h
      exact .inl (h0 b h)

/-- Where the k-th block begins; behind the last one, where the instructions end. -/
def begN (l : List Ix) (ls : List Nat) (k : Nat) : Nat := if k < ls.length then ls.getD k 0 else l.length
theorem begN_lt {l : List Ix} {ls : List Nat} {k : Nat} (h : k < ls.length) : begN l ls k = ls[k] := by
  unfold begN
  rw [if_pos h, List.getD_eq_getElem?_getD, List.getElem?_eq_getElem h]
  rfl
theorem begN_end {l : List Ix} {ls : List Nat} {k : Nat} : endN l ls k = begN l ls (k + 1) := rfl
theorem begN_zero {l : List Ix} (h : 1 ≤ l.length) : begN l (ldN l l.length) 0 = 0 ∧ 1 ≤ (ldN l l.length).length := by
  have h0 : ldB l 0 = true := by
    unfold ldB
    rw [List.getElem?_eq_getElem (by omega)]
    simp
  have hm : 0 ∈ ldN l l.length := by
    unfold ldN
    rw [List.mem_filter]
    exact ⟨by simp; omega, h0⟩
  have hl : 1 ≤ (ldN l l.length).length := List.length_pos_of_mem hm
  refine ⟨?_, hl⟩
  rw [begN_lt hl]
  obtain ⟨j, hj, e⟩ := List.getElem_of_mem hm
  rcases Nat.eq_zero_or_pos j with h | h
  · subst h; exact e
  · have := List.pairwise_iff_getElem.1 (ldN_pair l l.length) 0 j hl hj h
    omega
/-- Between two beginnings there is none. -/
theorem ldN_gap {l : List Ix} {k i : Nat} (h : k < (ldN l l.length).length) (h1 : (ldN l l.length)[k] < i) (h2 : i < endN l (ldN l l.length) k) : ldB l i = false := by
  rw [← Bool.not_eq_true]
  intro hb
  have hle := (endN_in h).2
  have hm : i ∈ ldN l l.length := by
    unfold ldN
    rw [List.mem_filter]
    exact ⟨by simp; omega, hb⟩
  obtain ⟨j, hj, e⟩ := List.getElem_of_mem hm
  rcases Nat.lt_trichotomy j k with g | g | g
  · have := List.pairwise_iff_getElem.1 (ldN_pair l l.length) j k hj h g
    omega
  · subst g; omega
  · unfold endN at h2
    by_cases hk : k + 1 < (ldN l l.length).length
    · rw [if_pos hk, List.getD_eq_getElem?_getD, List.getElem?_eq_getElem hk] at h2
      simp only [Option.getD_some] at h2
      rcases Nat.lt_or_ge (k + 1) j with g' | g'
      · have := List.pairwise_iff_getElem.1 (ldN_pair l l.length) (k + 1) j hk hj g'
        omega
      · have : j = k + 1 := by omega
        subst this
        omega
    · omega
/-- An instruction within a block that is not its last one goes on at the next one alone. -/
theorem gap_next {n : Nat} {l : List Ix} (hc : Chn n 0 l) (hn : n ≤ 4096) {k i : Nat} (h : k < (ldN l l.length).length) (h1 : (ldN l l.length)[k] ≤ i) (h2 : i + 1 < endN l (ldN l l.length) k) {x y : Ix} (hx : l[i]? = some x) (hy : l[i + 1]? = some y) : nextD x.p x.op x.a = [y.p] := by
  have hb := ldN_gap h (show (ldN l l.length)[k] < i + 1 by omega) h2
  have hp : prtD x.op = false := by
    unfold ldB at hb
    rw [hy] at hb
    simp only [Nat.add_sub_cancel] at hb
    rw [hx] at hb
    simp only [Bool.or_eq_false_iff] at hb
    exact hb.2
  have hxm := List.mem_of_getElem? hx
  have h3 := hc.lt x hxm
  have h4 := hc.ge x hxm
  rw [next_one h3.2 (by omega) (by omega) hp, hc.succ i x y hx hy]
/-- Where instructions lead, blocks begin. -/
theorem jump_beg {l : List Ix} {x : Ix} (hx : x ∈ l) (hj : jmpD x.op = true) {i : Nat} {y : Ix} (hy : l[i]? = some y) (e : y.p = x.a) : ldB l i = true := by
  unfold ldB
  rw [hy]
  have : y.p ∈ tgs l := by
    unfold tgs
    rw [List.mem_map]
    exact ⟨x, List.mem_filter.2 ⟨hx, hj⟩, e.symm⟩
  simp [this]
theorem beg_from {l : List Ix} {i : Nat} {y : Ix} (hr : rsB l = true) (hy : l[i]? = some y) (hb : ldB l i = true) : ∃ z ∈ bkD l, z.1 = y.p := by
  have hm : i ∈ ldN l l.length := by
    unfold ldN
    rw [List.mem_filter]
    exact ⟨by simp; exact (List.getElem?_eq_some_iff.1 hy).1, hb⟩
  obtain ⟨j, hj, e⟩ := List.getElem_of_mem hm
  refine ⟨blkN l (ldN l l.length) j, ?_, ?_⟩
  · unfold bkD
    rw [if_pos hr, List.mem_map]
    exact ⟨j, by simpa using hj, rfl⟩
  · unfold blkN pD
    simp only
    rw [List.getD_eq_getElem?_getD, List.getElem?_eq_getElem hj]
    simp only [Option.getD_some]
    rw [e, hy]
/-- Each way on of a block leads to a block's beginning. -/
theorem ways_from {n : Nat} {l : List Ix} (hc : Chn n 0 l) {k : Nat} (h : k < (ldN l l.length).length) {a : Int} (ha : a ∈ nxD l (endN l (ldN l l.length) k - 1)) : ∃ z ∈ bkD l, z.1 = a := by
  have hr := (rsB_iff l).2 hc.rises
  obtain ⟨he1, he2⟩ := endN_in h
  have hx := List.getElem?_eq_getElem (show endN l (ldN l l.length) k - 1 < l.length by omega)
  unfold nxD at ha
  rw [hx] at ha
  simp only at ha
  generalize l[endN l (ldN l l.length) k - 1]'(by omega) = x at hx ha
  obtain ⟨ha, hp⟩ := List.mem_filter.1 ha
  unfold hasP at hp
  rw [List.any_eq_true] at hp
  obtain ⟨y, hym, hya⟩ := hp
  have hya : y.p = a := by simpa using hya
  obtain ⟨i, hi⟩ := List.mem_iff_getElem?.1 hym
  rcases next_in ha with hb | ⟨hj, hb⟩
  · by_cases hl : endN l (ldN l l.length) k < l.length
    · have hy2 := List.getElem?_eq_getElem hl
      have hs := hc.succ (endN l (ldN l l.length) k - 1) x _ hx (by rw [show endN l (ldN l l.length) k - 1 + 1 = endN l (ldN l l.length) k from by omega]; exact hy2)
      have hii := rs_inj hc.rises hi hy2 (by rw [hya, hb, hs])
      have hb2 : ldB l i = true := by
        rw [hii]
        by_cases hk : k + 1 < (ldN l l.length).length
        · have : endN l (ldN l l.length) k = (ldN l l.length)[k + 1] := by
            unfold endN
            rw [if_pos hk, List.getD_eq_getElem?_getD, List.getElem?_eq_getElem hk]
            rfl
          rw [this]
          exact (List.mem_filter.1 (List.getElem_mem hk)).2
        · have : endN l (ldN l l.length) k = l.length := by unfold endN; rw [if_neg hk]
          omega
      obtain ⟨z, hz, e⟩ := beg_from hr hi hb2
      exact ⟨z, hz, by rw [e, hya]⟩
    · exfalso
      have hlast : ∀ z ∈ l, z.p ≤ x.p := by
        intro z hz
        obtain ⟨q, hq⟩ := List.mem_iff_getElem?.1 hz
        have hql := (List.getElem?_eq_some_iff.1 hq).1
        rcases Nat.lt_or_ge q (endN l (ldN l l.length) k - 1) with g | g
        · have := rs_lt hc.rises (endN l (ldN l l.length) k - 1 - q - 1) q z x hq (by rw [show q + 1 + (endN l (ldN l l.length) k - 1 - q - 1) = endN l (ldN l l.length) k - 1 from by omega]; exact hx)
          omega
        · have : q = endN l (ldN l l.length) k - 1 := by omega
          rw [this, hx] at hq
          injection hq with hq
          rw [hq]; exact Int.le_refl _
      have h1 := hlast y hym
      have h2 := (hc.lt x (List.mem_of_getElem? hx)).2
      omega
  · obtain ⟨z, hz, e⟩ := beg_from hr hi (jump_beg (List.mem_of_getElem? hx) hj hi (by rw [hya, hb]))
    exact ⟨z, hz, by rw [e, hya]⟩
theorem bk_len2 (l : List Ix) : (bkD l).length ≤ l.length := by
  unfold bkD
  split
  · have := ldN_len l l.length
    simpa using this
  · simp
theorem bk_nx2 {l : List Ix} {y : Int × Int × List Int} (h : y ∈ bkD l) : y.2.2.length ≤ 2 := by
  unfold bkD at h
  split at h
  · obtain ⟨k, _, rfl⟩ := List.mem_map.1 h
    unfold blkN nxD
    simp only
    cases l[endN l (ldN l l.length) k - 1]? with
    | none => simp
    | some x => exact Nat.le_trans (List.length_filter_le _ _) (nextD_len _ _ _)
  · simp at h
theorem sc_parts {L : List UInt8} (he : (scR L).2.2 = 0) : L.length ≤ 4096 ∧ Chn L.length 0 (scR L).1 := by
  unfold scR at he ⊢
  by_cases h4 : 4096 < L.length
  · rw [if_pos h4] at he; simp at he
  · rw [if_neg h4] at he ⊢
    refine ⟨by omega, ?_⟩
    by_cases h5 : (scD L (L.length + 1) 0).2.2 = 0
    · rw [if_pos h5]; exact sc_chn L _ _ h5 (Nat.zero_le _) (by omega)
    · rw [if_neg h5] at he; exact absurd he h5
/-- What the k-th block of such code is. -/
structure Blk (l : List Ix) (M : List Bx) (k : Nat) (y : Bx) (i e : Nat) : Prop where
  lo : i < e
  hi : e ≤ l.length
  frm : ∀ x, l[i]? = some x → y.fr = x.p
  lst : ∀ x, l[e - 1]? = some x → y.la = x.p
  gap : ∀ j x z, i ≤ j → j + 1 < e → l[j]? = some x → l[j + 1]? = some z → nextD x.p x.op x.a = [z.p]
  ways : ∀ a ∈ y.nx, ∃ j, frI M a = some j
  few : y.nx.length ≤ 2
theorem blk_of {n : Nat} {l : List Ix} (hc : Chn n 0 l) (hn : n ≤ 4096) {M : List Bx} (hM : M.map Bx.pl = bkD l) {k : Nat} {y : Bx} (hy : M[k]? = some y) : Blk l M k y (begN l (ldN l l.length) k) (begN l (ldN l l.length) (k + 1)) := by
  have hr := (rsB_iff l).2 hc.rises
  have hk := (List.getElem?_eq_some_iff.1 hy).1
  have hlen : M.length = (ldN l l.length).length := by
    have := congrArg List.length hM
    unfold bkD at this
    rw [if_pos hr] at this
    simpa using this
  have hk2 : k < (ldN l l.length).length := by omega
  have hpl : y.pl = blkN l (ldN l l.length) k := by
    have h1 : (M.map Bx.pl)[k]? = some y.pl := by rw [List.getElem?_map, hy]; rfl
    rw [hM] at h1
    unfold bkD at h1
    rw [if_pos hr, List.getElem?_map, List.getElem?_range hk2] at h1
    exact (Option.some.inj h1).symm
  have h1 : y.fr = pD l ((ldN l l.length).getD k 0) := congrArg (fun q => q.1) hpl
  have h2 : y.la = pD l (endN l (ldN l l.length) k - 1) := congrArg (fun q => q.2.1) hpl
  have h3 : y.nx = nxD l (endN l (ldN l l.length) k - 1) := congrArg (fun q => q.2.2) hpl
  obtain ⟨he1, he2⟩ := endN_in hk2
  have hb : begN l (ldN l l.length) k = (ldN l l.length)[k] := begN_lt hk2
  refine ⟨by rw [hb]; exact he1, he2, ?_, ?_, ?_, ?_, ?_⟩
  · intro x hx
    rw [hb] at hx
    rw [h1]
    unfold pD
    rw [List.getD_eq_getElem?_getD, List.getElem?_eq_getElem hk2]
    simp only [Option.getD_some]
    rw [hx]
  · intro x hx
    rw [h2]
    unfold pD
    rw [show endN l (ldN l l.length) k = begN l (ldN l l.length) (k + 1) from rfl, hx]
  · intro j x z h4 h5 hx hz
    rw [hb] at h4
    exact gap_next hc hn hk2 h4 h5 hx hz
  · intro a ha
    rw [h3] at ha
    obtain ⟨z, hz, e⟩ := ways_from hc hk2 ha
    rw [← hM] at hz
    obtain ⟨q, hq, rfl⟩ := List.mem_map.1 hz
    exact frI_in hq e
  · have : y.pl ∈ bkD l := by rw [← hM]; exact List.mem_map_of_mem (List.mem_of_getElem? hy)
    exact bk_nx2 this
theorem blk_ends {n : Nat} {l : List Ix} (hc : Chn n 0 l) {M : List Bx} (hM : M.map Bx.pl = bkD l) : begN l (ldN l l.length) M.length = l.length := by
  have hr := (rsB_iff l).2 hc.rises
  have hlen : M.length = (ldN l l.length).length := by
    have := congrArg List.length hM
    unfold bkD at this
    rw [if_pos hr] at this
    simpa using this
  unfold begN
  rw [if_neg (by omega)]
end Go.Proofs.Ytdpfinnclnapbaa
