/-
  provisoplain.SameBlocks: two rows of blocks that say the same.
  The number of the first block at an address: the laws' and the reference's from.
-/
import Derived.Test.YtdpfinnclnapbaaBk1
namespace Go.Proofs.Ytdpfinnclnapbaa
open Go.RowKit Go.Maps

/-- A row of blocks that reads so. -/
structure BxAt (W : World) (b o : Nat) (y : Bx) : Prop where
  c0 : W.cell? ⟨b, o, none⟩ = some (.int .i64 y.fr)
  c1 : W.cell? ⟨b, o + 1, none⟩ = some (.int .i64 y.la)
  c2 : W.cell? ⟨b, o + 2, none⟩ = some (.slice y.no y.nx.length y.nc)
  nxt : JsAt W y.no y.nx
def BksAt (W : World) (ao : Option Addr) (L : List Bx) : Prop := ∀ i x, L[i]? = some x → ∃ b off, ao = some ⟨b, off, none⟩ ∧ BxAt W b (off + i * 3) x
theorem BxAt.below {W w : World} {b o : Nat} {y : Bx} (h : BxAt W b o y) (hb : Below W.heap.size W w) : BxAt w b o y := by
  have hl : b < W.heap.size := World.block_lt_of_cell? W _ h.c0
  exact ⟨(hb.cell (p := ⟨b, o, none⟩) hl).trans h.c0, (hb.cell (p := ⟨b, o + 1, none⟩) hl).trans h.c1, (hb.cell (p := ⟨b, o + 2, none⟩) hl).trans h.c2, h.nxt.below hb⟩
theorem BksAt.below {W w : World} {ao : Option Addr} {L : List Bx} (h : BksAt W ao L) (hb : Below W.heap.size W w) : BksAt w ao L := fun i x hx => by
  obtain ⟨b, off, e, h1⟩ := h i x hx
  exact ⟨b, off, e, h1.below hb⟩
theorem OwnK.at {w : World} {base b2 : Nat} {v : Value} {M : List Bx} (h : OwnK w base v M) (hn : ∀ y ∈ M, NxOwn w b2 y) : ∃ ao cap, v = .slice ao M.length cap ∧ BksAt w ao M := by
  rcases h.2 with ⟨h1, h2⟩ | ⟨g, cap, cur, rfl, hb, hh, hnn, hm, hsz, ht⟩
  · have := List.eq_nil_of_length_eq_zero h2
    subst this
    exact ⟨none, 0, h1, fun i x hx => by simp at hx⟩
  · refine ⟨_, cap, rfl, fun i y hy => ⟨g, 0, rfl, ?_⟩⟩
    have hi := (List.getElem?_eq_some_iff.1 hy).1
    obtain ⟨h1, h2, h3⟩ := kvals_get hy
    obtain ⟨na, nc, e, hj, _⟩ := (hn y (List.mem_of_getElem? hy)).at
    injection e with e1 _ e2
    subst e1
    refine ⟨?_, ?_, ?_, hj⟩
    · rw [Nat.zero_add, World.ownsRow.cellAt h (i * 3) (by omega)]; exact h1
    · rw [Nat.zero_add, World.ownsRow.cellAt h (i * 3 + 1) (by omega)]; exact h2
    · rw [Nat.zero_add, World.ownsRow.cellAt h (i * 3 + 2) (by omega)]; exact h3

set_option maxRecDepth 20000 in
set_option maxHeartbeats 4000000 in
theorem SameBlocks_yes (ga ao : Option Addr) (gc cap : Nat) (T G : List Bx) (w : World) (hG : BksAt w ga G) (hT : BksAt w ao T) (hs : G.map Bx.pl = T.map Bx.pl) (hz : T.length ≤ 4400000000000) (hnl : ∀ y ∈ T, y.nx.length ≤ 17592186044416) :
    Calls Try.prog 9 #[.slice ga G.length gc, .slice ao T.length cap] w fun e w' => e = .returned (.bool true) ∧ Below w.heap.size w w' := by
  have hl : G.length = T.length := by have := congrArg List.length hs; simpa using this
  rw [hl]
  have e0 : (((T.length : Nat) : Int) != ((T.length : Nat) : Int)) = false := by simp
  have HG := hide hG
  have HT := hide hT
  have HS := hide hs
  have HLn := hide hl
  have HNL := hide hnl
  have hT2 : T.length < 9223372036854775000 := by omega
  clear hG hT hs hl hz hnl
  go_enter Try.func9, Try.ntmps9
  go_wp2
  go_loopw [13] (fun i wr => ∃ k : Nat, k ≤ T.length ∧ i = .int .i64 (k : Int) ∧ Hid (Below w.heap.size w wr)) (fun i _ => T.length - (intOf i).toNat)
  case atStart => exact ⟨0, by omega, rfl, hide (Below.refl _ _)⟩
  case round =>
    obtain ⟨k, hk, rfl, HB⟩ := hrel
    by_cases hlt : k < T.length
    · have i1 : ((k : Nat) : Int) < ((T.length : Nat) : Int) := by omega
      have hx := List.getElem?_eq_getElem hlt
      have hkG : k < G.length := by have := unhide HLn; omega
      have hy := List.getElem?_eq_getElem hkG
      have hsc : G[k].pl = T[k].pl := by
        have := congrArg (fun q => q[k]?) (unhide HS)
        simp only [List.getElem?_map, hx, hy, Option.map_some, Option.some.injEq] at this
        exact this
      obtain ⟨b, off, rfl, hxa⟩ := (unhide HT).below (unhide HB) k _ hx
      obtain ⟨b', off', rfl, hya⟩ := (unhide HG).below (unhide HB) k _ hy
      have hxn := unhide HNL _ (List.getElem_mem hlt)
      generalize T[k] = x at hxa hsc hxn
      generalize G[k]'hkG = y at hya hsc
      have h1 : y.fr = x.fr := congrArg (fun q => q.1) hsc
      have h2 : y.la = x.la := congrArg (fun q => q.2.1) hsc
      have h3 : y.nx = x.nx := congrArg (fun q => q.2.2) hsc
      have c0 := hxa.c0
      have c1 := hxa.c1
      have c2 := hxa.c2
      have d0 := hya.c0
      have d1 := hya.c1
      have d2 := hya.c2
      rw [h1] at d0
      rw [h2] at d1
      rw [h3] at d2
      have HE : Hid (∀ n, Calls Try.prog 6 #[.slice y.no x.nx.length y.nc, .slice x.no x.nx.length x.nc] (wr.drewN n) fun e w' => e = .returned (.bool true) ∧ ∃ j, w' = (wr.drewN n).drewN j) := hide (fun n => EqualJ_same (by have := hya.nxt; rw [h3] at this; exact this.below (belowD (Below.refl _ _) _)) (hxa.nxt.below (belowD (Below.refl _ _) _)) hxn)
      have e1 : (x.fr != x.fr) = false := by simp
      have e2 : (x.la != x.la) = false := by simp
      clear hx hy hxa hya hsc h1 h2 h3
      go_wp2
      go_quiet ((go_at_call 6; with_reducible exact Calls.quiet_of (unhide HE _)))
      go_wp2
      go_roundw
      case rel => exact ⟨k + 1, by omega, by go_num, hide (belowD (unhide HB) _)⟩
      case measure => simp [intOf]; omega
    · have i1 : ¬ ((k : Nat) : Int) < ((T.length : Nat) : Int) := by omega
      go_wp2
      go_ret
      exact ⟨rfl, unhide HB⟩
def frI (G : List Bx) (a : Int) : Option Nat := G.findIdx? (fun y => decide (y.fr = a))
def frZ (G : List Bx) (a : Int) : Int := match frI G a with | some i => (i : Int) | none => -1
theorem frI_some {G : List Bx} {a : Int} {i : Nat} (h : frI G a = some i) : ∃ x, G[i]? = some x ∧ x.fr = a := by
  obtain ⟨hi, hp, _⟩ := List.findIdx?_eq_some_iff_getElem.1 h
  exact ⟨G[i], List.getElem?_eq_getElem hi, by simpa using hp⟩
theorem frI_in {G : List Bx} {a : Int} {x : Bx} (h : x ∈ G) (e : x.fr = a) : ∃ i, frI G a = some i := by
  have : (frI G a).isSome = true := by
    unfold frI
    rw [List.findIdx?_isSome, List.any_eq_true]
    exact ⟨x, h, by simp [e]⟩
  exact Option.isSome_iff_exists.1 this
theorem frI_at {G : List Bx} {a : Int} {k : Nat} {x : Bx} (hn : ∀ y ∈ G.take k, y.fr ≠ a) (hx : G[k]? = some x) (e : x.fr = a) : frI G a = some k := by
  have hk := (List.getElem?_eq_some_iff.1 hx).1
  refine List.findIdx?_eq_some_iff_getElem.2 ⟨hk, ?_, ?_⟩
  · have : G[k] = x := (List.getElem?_eq_some_iff.1 hx).2
    rw [this]; simp [e]
  · intro j hj
    have hm : G[j]'(by omega) ∈ G.take k := by
      rw [List.mem_take_iff_getElem]
      exact ⟨j, by omega, rfl⟩
    simpa using hn _ hm
theorem frI_none {G : List Bx} {a : Int} (hn : ∀ y ∈ G, y.fr ≠ a) : frI G a = none := by
  unfold frI
  rw [List.findIdx?_eq_none_iff]
  intro x hx
  simpa using hn x hx
theorem frI_snoc {G : List Bx} {a : Int} {k : Nat} {x : Bx} (hn : ∀ y ∈ G.take k, y.fr ≠ a) (hx : G[k]? = some x) (e : x.fr ≠ a) : ∀ y ∈ G.take (k + 1), y.fr ≠ a := by
  have hk := (List.getElem?_eq_some_iff.1 hx).1
  have he : G[k] = x := (List.getElem?_eq_some_iff.1 hx).2
  rw [List.take_succ_eq_append_getElem hk]
  intro y hy
  rcases List.mem_append.1 hy with h | h
  · exact hn y h
  · rw [List.mem_singleton.1 h, he]; exact e
theorem frZ_at {G : List Bx} {a : Int} {i : Nat} (h : frI G a = some i) : frZ G a = (i : Int) := by unfold frZ; rw [h]
theorem frZ_none {G : List Bx} {a : Int} (h : frI G a = none) : frZ G a = -1 := by unfold frZ; rw [h]

set_option maxRecDepth 20000 in
set_option maxHeartbeats 4000000 in
theorem lawFrom_any (ao : Option Addr) (c : Nat) (G : List Bx) (a : Int) (w : World) (hx : BksAt w ao G) (hz : G.length ≤ 4400000000000) :
    Calls Try.prog 15 #[.slice ao G.length c, .int .i64 a] w fun e w' => e = .returned (.int .i64 (frZ G a)) ∧ Below w.heap.size w w' := by
  have HX := hide hx
  clear hx
  go_enter Try.func15, Try.ntmps15
  go_wp2
  go_loopw [9] (fun i wr => ∃ k : Nat, k ≤ G.length ∧ i = .int .i64 (k : Int) ∧ Hid (∀ y ∈ G.take k, y.fr ≠ a) ∧ Hid (Below w.heap.size w wr)) (fun i _ => G.length - (intOf i).toNat)
  case atStart => exact ⟨0, by omega, rfl, hide (by simp), hide (Below.refl _ _)⟩
  case round =>
    obtain ⟨k, hk, rfl, HN, HB⟩ := hrel
    by_cases hkl : k < G.length
    · have j1 : ((k : Nat) : Int) < ((G.length : Nat) : Int) := by omega
      have hy := List.getElem?_eq_getElem hkl
      generalize G[k] = y at hy
      obtain ⟨b, off, rfl, hyc⟩ := (unhide HX).below (unhide HB) k y hy
      obtain ⟨c0, c1, c2, _⟩ := hyc
      have HY := hide hy
      have HBa := hide ((unhide HB).trans (((Below.refl wr.heap.size wr).alloc (Nat.le_refl _) (.cells #[.int .i64 y.fr, .int .i64 y.la, .slice y.no y.nx.length y.nc] 25)).mono (unhide HB).size))
      clear hy
      by_cases hp : y.fr = a
      · have hq : (y.fr == a) = true := by simpa using hp
        have HF := hide (frZ_at (frI_at (unhide HN) (unhide HY) hp))
        clear hp
        go_wp2
        go_ret
        exact ⟨by rw [unhide HF]; rfl, unhide HBa⟩
      · have hq : (y.fr == a) = false := by simpa using hp
        have HF := hide (frI_snoc (unhide HN) (unhide HY) hp)
        clear hp
        go_wp2
        go_roundw
        case rel => exact ⟨k + 1, by omega, by go_num, HF, HBa⟩
        case measure => simp [intOf]; omega
    · obtain rfl : k = G.length := by omega
      have HF : Hid (frZ G a = -1) := hide (frZ_none (frI_none (fun y hy => unhide HN y (by rw [List.take_length]; exact hy))))
      go_wp2
      go_ret
      exact ⟨by rw [unhide HF]; rfl, unhide HB⟩

set_option maxRecDepth 20000 in
set_option maxHeartbeats 4000000 in
theorem refFrom_any (ao : Option Addr) (c : Nat) (G : List Bx) (a : Int) (w : World) (hx : BksAt w ao G) (hz : G.length ≤ 4400000000000) :
    Calls Try.prog 29 #[.slice ao G.length c, .int .i64 a] w fun e w' => e = .returned (.int .i64 (frZ G a)) ∧ Below w.heap.size w w' := by
  have HX := hide hx
  clear hx
  go_enter Try.func29, Try.ntmps29
  go_wp2
  go_loopw [9] (fun i wr => ∃ k : Nat, k ≤ G.length ∧ i = .int .i64 (k : Int) ∧ Hid (∀ y ∈ G.take k, y.fr ≠ a) ∧ Hid (Below w.heap.size w wr)) (fun i _ => G.length - (intOf i).toNat)
  case atStart => exact ⟨0, by omega, rfl, hide (by simp), hide (Below.refl _ _)⟩
  case round =>
    obtain ⟨k, hk, rfl, HN, HB⟩ := hrel
    by_cases hkl : k < G.length
    · have j1 : ((k : Nat) : Int) < ((G.length : Nat) : Int) := by omega
      have hy := List.getElem?_eq_getElem hkl
      generalize G[k] = y at hy
      obtain ⟨b, off, rfl, hyc⟩ := (unhide HX).below (unhide HB) k y hy
      obtain ⟨c0, c1, c2, _⟩ := hyc
      have HY := hide hy
      have HBa := hide ((unhide HB).trans (((Below.refl wr.heap.size wr).alloc (Nat.le_refl _) (.cells #[.int .i64 y.fr, .int .i64 y.la, .slice y.no y.nx.length y.nc] 25)).mono (unhide HB).size))
      clear hy
      by_cases hp : y.fr = a
      · have hq : (y.fr == a) = true := by simpa using hp
        have HF := hide (frZ_at (frI_at (unhide HN) (unhide HY) hp))
        clear hp
        go_wp2
        go_ret
        exact ⟨by rw [unhide HF]; rfl, unhide HBa⟩
      · have hq : (y.fr == a) = false := by simpa using hp
        have HF := hide (frI_snoc (unhide HN) (unhide HY) hp)
        clear hp
        go_wp2
        go_roundw
        case rel => exact ⟨k + 1, by omega, by go_num, HF, HBa⟩
        case measure => simp [intOf]; omega
    · obtain rfl : k = G.length := by omega
      have HF : Hid (frZ G a = -1) := hide (frZ_none (frI_none (fun y hy => unhide HN y (by rw [List.take_length]; exact hy))))
      go_wp2
      go_ret
      exact ⟨by rw [unhide HF]; rfl, unhide HB⟩
end Go.Proofs.Ytdpfinnclnapbaa
