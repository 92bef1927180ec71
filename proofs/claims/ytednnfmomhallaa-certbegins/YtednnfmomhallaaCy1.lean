/-
  An entry's bytes, and the contract of cert.put: they are put behind what a writer has. Conditions: the entry can be; there is room.
-/
import Derived.Test.YtednnfmomhallaaCz3
import Derived.Test.YtednnfmomhallaaWOps
namespace Go.Proofs.Ytednnfmomhallaa
open Go.RowKit

/-- An entry's bytes; a certificate's. -/
def encE (x : En) : List UInt8 := be x.at_ 2 ++ (if x.dead = true then be 0 1 else be 1 1 ++ (be x.fr.he 1 ++ (x.fr.sl.take (x.fr.lo + x.fr.he).toNat).flatMap fun (t : Nat) => be (t : Int) 1))
def encC (lo : Int) (es : List En) : List UInt8 := [112, 118, 1] ++ (be lo 1 ++ (be (es.length : Int) 2 ++ es.flatMap encE))

theorem w_ok1 {l : List UInt8} {n : Int} (h0 : 0 ≤ n) (h1 : n ≤ 255) (hl : l.length + 1 ≤ 1048576) : wE l n 1 = 0 ∧ wL l n 1 = l ++ be n 1 := by
  have e : wE l n 1 = 0 := by unfold wE loN hiN; rw [if_neg (by simp; omega), if_neg (by omega)]
  exact ⟨e, by unfold wL; rw [if_pos e]⟩
theorem w_ok2 {l : List UInt8} {n : Int} (h0 : 0 ≤ n) (h1 : n ≤ 65535) (hl : l.length + 2 ≤ 1048576) : wE l n 2 = 0 ∧ wL l n 2 = l ++ be n 2 := by
  have e : wE l n 2 = 0 := by unfold wE loN hiN; rw [if_neg (by simp; omega), if_neg (by omega)]
  exact ⟨e, by unfold wL; rw [if_pos e]⟩

/-- A writer under way, with something else in a block of its own: nothing but the writer's has turned. -/
structure PW (w W : World) (p : Nat) (v0 v : Value) (l : List UInt8) : Prop where
  wr : IsWriter W p v l
  kept : Kept (WT p v0) w W
  own : ∀ k, v.ownBlock = some k → v0.ownBlock = some k ∨ w.heap.size ≤ k
theorem PW.refl {w : World} {p : Nat} {v : Value} {l : List UInt8} (h : IsWriter w p v l) : PW w w p v v l := ⟨h, Kept.refl _ _, fun _ hk => .inl hk⟩
theorem PW.below {w W W' : World} {p : Nat} {v0 v : Value} {l : List UInt8} (h : PW w W p v0 v l) (hb : Below W.heap.size W W') : PW w W' p v0 v l :=
  ⟨h.wr.below hb, h.kept.trans (Kept.of_below hb (fun _ => False)) (fun _ _ h => h) (fun _ _ h => h.elim), h.own⟩
theorem PW.step {w W W' : World} {p : Nat} {v0 v v' : Value} {l l' : List UInt8} (h : PW w W p v0 v l) (h1 : IsWriter W' p v' l') (h2 : Kept (WT p v) W W') (h3 : ∀ k, v'.ownBlock = some k → v.ownBlock = some k ∨ W.heap.size ≤ k) : PW w W' p v0 v' l' :=
  ⟨h1, h.kept.trans h2 (fun _ _ h => h) (fun x hx hw => by
    rcases hw with rfl | hw
    · exact .inl rfl
    · rcases h.own x hw with h5 | h5
      · exact .inr h5
      · omega), fun k hk => by
    rcases h3 k hk with h5 | h5
    · exact h.own k h5
    · exact .inr (Nat.le_trans h.kept.size h5)⟩
/-- A block that is none of the writer's stays. -/
theorem kept_at {W W' : World} {p : Nat} {v : Value} {g : Nat} {o : Obj} (hk : Kept (WT p v) W W') (hg : W.heap[g]? = some o) (hp : g ≠ p) (hv : v.ownBlock ≠ some g) : W'.heap[g]? = some o :=
  (hk.block g (Array.getElem?_eq_some_iff.1 hg).1 (fun h => h.elim hp hv)).trans hg
theorem not_own {W : World} {v v' : Value} {g : Nat} (hg : g < W.heap.size) (hv : v.ownBlock ≠ some g) (h3 : ∀ k, v'.ownBlock = some k → v.ownBlock = some k ∨ W.heap.size ≤ k) : v'.ownBlock ≠ some g := fun e => by
  rcases h3 g e with h | h
  · exact hv h
  · omega
/-- What is wanted of an entry. -/
structure EnGood (x : En) : Prop where
  at0 : 0 ≤ x.at_ ∧ x.at_ ≤ 4095
  ok : FrOk x.fr
  fit : x.dead = false → 0 ≤ x.fr.lo ∧ 0 ≤ x.fr.he ∧ x.fr.lo + x.fr.he ≤ 24
theorem flat_step {sl : List Nat} {k t : Nat} (h : sl[k]? = some t) : (sl.take (k + 1)).flatMap (fun (t : Nat) => be (t : Int) 1) = (sl.take k).flatMap (fun (t : Nat) => be (t : Int) 1) ++ be (t : Int) 1 := by
  rw [List.take_add_one, h, List.flatMap_append]
  simp
theorem flat1_len (sl : List Nat) : (sl.flatMap fun (t : Nat) => be (t : Int) 1).length = sl.length := by
  induction sl with
  | nil => rfl
  | cons t sl ih => rw [List.flatMap_cons, List.length_append, ih, be_length, List.length_cons]; omega
theorem EAt.slot {W : World} {g : Nat} {x : En} (h : EAt W g x) {i t : Nat} (ht : x.fr.sl[i]? = some t) : W.cell? ⟨g, 4 + i, none⟩ = some (.int .u8 (t : Int)) := by
  have := h.range (2 + i) (.int .u8 (t : Int)) (by unfold frL; rw [Nat.add_comm 2 i]; simp [slV_get ht])
  rwa [← Nat.add_assoc] at this
theorem EAt.lo {W : World} {g : Nat} {x : En} (h : EAt W g x) : W.cell? ⟨g, 2, none⟩ = some (.int .i64 x.fr.lo) := h.range 0 _ rfl
theorem EAt.he {W : World} {g : Nat} {x : En} (h : EAt W g x) : W.cell? ⟨g, 3, none⟩ = some (.int .i64 x.fr.he) := h.range 1 _ rfl
theorem run_uptoAt (W : World) (g o n : Nat) (hn : n ≤ 24) :
    (Instr.sliceAt 38 (.pointer (some ⟨g, o, none⟩)) none (some (.int .i64 (n : Int))) none).run Try.prog W = .ok (.slice (some ⟨g, o, none⟩) n 24) W := by
  have hl : Try.prog.arrayLen 38 = 24 := by unfold Program.arrayLen; rw [Try.underlying38]
  have hu : Try.prog.underlying 38 = some (.array (Try.prog.arrayLen 38) (Try.prog.elem 38)) := by kernel_rfl
  have hz : ∀ w, (sizeOf (Try.prog.elem 38)).run Try.prog w = .ok 1 w := fun w => by
    have he : Try.prog.elem 38 = 37 := by kernel_rfl
    obtain ⟨i, hi⟩ := infoTy
    rw [he, run_sizeOf w hi, cellsTy]
  rw [run_sliceAt_array_h W _ _ hu .i64 (n : Int) (by omega) (by rw [hl]; omega), hz, hl]
  simp [slicedAt, Addr.add_lit]

set_option maxRecDepth 20000 in
set_option maxHeartbeats 2000000 in
theorem put_any {w : World} {p : Nat} {v : Value} {l : List UInt8} (x : En) (hg : EnGood x) (h : IsWriter w p v l) (hl : l.length + 28 ≤ 1048576) :
    Calls Try.prog 27 #[.pointer (some ⟨p, 0, none⟩), .agg (enA x)] w fun e w' => e = .returned (.tuple #[]) ∧ ∃ v', PW w w' p v v' (l ++ encE x) := by
  have hpl := h.pl
  have al := (Below.refl w.heap.size w).alloc (Nat.le_refl _) (.cells (enA x) 42)
  have HP : Hid (PW w (w.alloc (.cells (enA x) 42)) p v v l) := hide ((PW.refl h).below al)
  have HE := hide (EAt.new w x)
  have hsz : (w.alloc (.cells (enA x) 42)).heap.size = w.heap.size + 1 := by simp
  have HV : Hid (v.ownBlock ≠ some w.heap.size) := hide (fun e => by have := (h.own.lt _ e).2; omega)
  clear al h
  go_enter Try.func27, Try.ntmps27
  go_upto_region 1 with fail
  generalize hW : (w.alloc (.cells (enA x) 42)) = W1 at HP HE hsz ⊢
  generalize hgg : w.heap.size = g at HE HV hsz hpl ⊢
  have hgp : g ≠ p := by omega
  have c0 := (unhide HE).c0
  have hat := hg.at0
  go_wp2_with fail
  refine (wWord_u (unhide HP).wr x.at_).mono ?_
  rintro e W2 ⟨rfl, v2, a1, a2, a3⟩
  rw [(w_ok2 hat.1 (by omega) (by omega)).1]
  rw [(w_ok2 hat.1 (by omega) (by omega)).2] at a1
  have HP2 := hide ((unhide HP).step a1 a2 a3)
  have HE2 : Hid (EAt W2 g x) := hide (kept_at a2 (unhide HE) hgp (unhide HV))
  have HV2 : Hid (v2.ownBlock ≠ some g) := hide (not_own (by omega) (unhide HV) a3)
  have c1 := (unhide HE2).c1
  have s2 := (unhide HE2).lt
  clear a1 a2 a3 HP HE HV c0 hsz hW
  cases hd : x.dead
  · rw [hd] at c1
    obtain ⟨hf0, hf1, hf2⟩ := hg.fit hd
    obtain ⟨lo, hlo⟩ : ∃ lo : Nat, x.fr.lo = (lo : Int) := ⟨x.fr.lo.toNat, by omega⟩
    obtain ⟨he, hhe⟩ : ∃ he : Nat, x.fr.he = (he : Int) := ⟨x.fr.he.toNat, by omega⟩
    have HEE : Hid (encE x = be x.at_ 2 ++ (be 1 1 ++ (be (he : Int) 1 ++ (x.fr.sl.take (lo + he)).flatMap fun (t : Nat) => be (t : Int) 1))) := hide (by
      unfold encE
      rw [if_neg (by rw [hd]; simp), hlo, hhe, show ((lo : Int) + (he : Int)).toNat = lo + he by omega])
    go_wp2_with fail
    refine (wByte_u (unhide HP2).wr 1).mono ?_
    rintro e W3 ⟨rfl, v3, a1, a2, a3⟩
    rw [(w_ok1 (l := l ++ be x.at_ 2) (n := 1) (by omega) (by omega) (by rw [List.length_append, be_length]; omega)).2] at a1
    have HP3 := hide ((unhide HP2).step a1 a2 a3)
    have HE3 : Hid (EAt W3 g x) := hide (kept_at a2 (unhide HE2) hgp (unhide HV2))
    have HV3 : Hid (v3.ownBlock ≠ some g) := hide (not_own s2 (unhide HV2) a3)
    have k3 := (unhide HE3).he
    rw [hhe] at k3
    have s3 := (unhide HE3).lt
    clear a1 a2 a3 HP2 HE2 HV2 c1 s2
    go_wp2_with fail
    refine (wByte_u (unhide HP3).wr (he : Int)).mono ?_
    rintro e W4 ⟨rfl, v4, a1, a2, a3⟩
    rw [(w_ok1 (l := l ++ be x.at_ 2 ++ be 1 1) (n := (he : Int)) (by omega) (by omega) (by rw [List.length_append, List.length_append, be_length, be_length]; omega)).2] at a1
    have HP4 := hide ((unhide HP3).step a1 a2 a3)
    have HE4 : Hid (EAt W4 g x) := hide (kept_at a2 (unhide HE3) hgp (unhide HV3))
    have HV4 : Hid (v4.ownBlock ≠ some g) := hide (not_own s3 (unhide HV3) a3)
    have k4 := (unhide HE4).he
    have k5 := (unhide HE4).lo
    rw [hhe] at k4
    rw [hlo] at k5
    have hn : lo + he ≤ 24 := by omega
    have hsl := run_uptoAt W4 g 4 (lo + he) hn
    rw [Int.natCast_add] at hsl
    clear a1 a2 a3 HP3 HE3 HV3 k3 s3
    go_wp2
    obtain ⟨n, HN⟩ : ∃ n : Nat, Hid (lo + he = n) := ⟨_, hide rfl⟩
    rw [unhide HN, show (lo : Int) + (he : Int) = (n : Int) by have := unhide HN; omega]
    rw [unhide HN] at HEE hn
    obtain ⟨L, HL⟩ : ∃ L, Hid (l ++ be x.at_ 2 ++ be 1 1 ++ be (he : Int) 1 = L) := ⟨_, hide rfl⟩
    rw [unhide HL] at HP4
    have hL : L.length = l.length + 4 := by rw [← unhide HL]; simp [be_length]
    clear hsl k4 k5
    go_loopw [32] (fun i wr => ∃ (k : Nat) (u : Value), k ≤ n ∧ i = .int .i64 (k : Int) ∧ Hid (PW w wr p v u (L ++ (x.fr.sl.take k).flatMap fun (t : Nat) => be (t : Int) 1)) ∧ Hid (EAt wr g x) ∧ Hid (u.ownBlock ≠ some g)) (fun i _ => n - (intOf i).toNat)
    case atStart => exact ⟨0, v4, by omega, rfl, by simpa using HP4, HE4, HV4⟩
    case round =>
      obtain ⟨k, u, hk, rfl, HPk, HEk, HVk⟩ := hrel
      by_cases hlt : k < n
      · have i1 : ((k : Nat) : Int) < ((n : Nat) : Int) := by omega
        obtain ⟨t, ht⟩ : ∃ t, x.fr.sl[k]? = some t := ⟨_, List.getElem?_eq_getElem (show k < x.fr.sl.length by rw [hg.ok.len]; omega)⟩
        have q := (unhide HEk).slot ht
        have ht8 := hg.ok.byte t (List.mem_of_getElem? ht)
        have hlen : (L ++ (x.fr.sl.take k).flatMap fun (t : Nat) => be (t : Int) 1).length + 1 ≤ 1048576 := by
          rw [List.length_append, flat1_len, List.length_take, hL]
          omega
        go_wp2_with fail
        refine (wByte_u (unhide HPk).wr (t : Int)).mono ?_
        rintro e W5 ⟨rfl, u5, a1, a2, a3⟩
        rw [(w_ok1 (n := (t : Int)) (by omega) (by omega) hlen).2, List.append_assoc, ← flat_step ht] at a1
        have HP5 := hide ((unhide HPk).step a1 a2 a3)
        have HE5 : Hid (EAt W5 g x) := hide (kept_at a2 (unhide HEk) hgp (unhide HVk))
        have HV5 : Hid (u5.ownBlock ≠ some g) := hide (not_own (unhide HEk).lt (unhide HVk) a3)
        clear a1 a2 a3 HPk HEk HVk hlen ht
        go_wp2
        go_roundw
        case rel => exact ⟨k + 1, u5, by omega, by go_num, HP5, HE5, HV5⟩
        case measure => simp [intOf]; omega
      · have i1 : ¬ ((k : Nat) : Int) < ((n : Nat) : Int) := by omega
        go_wp2
        go_end0
        refine ⟨rfl, u, ?_⟩
        rw [unhide HEE]
        have := unhide HPk
        rw [← unhide HL, show k = n by omega] at this
        simpa [List.append_assoc] using this
  · rw [hd] at c1
    have HEE : Hid (encE x = be x.at_ 2 ++ be 0 1) := hide (by unfold encE; rw [if_pos hd])
    go_wp2_with fail
    refine (wByte_u (unhide HP2).wr 0).mono ?_
    rintro e W3 ⟨rfl, v3, a1, a2, a3⟩
    rw [(w_ok1 (l := l ++ be x.at_ 2) (n := 0) (by omega) (by omega) (by rw [List.length_append, be_length]; omega)).2] at a1
    have HP3 := hide ((unhide HP2).step a1 a2 a3)
    clear a1 a2 a3
    go_wp2
    refine bodyPost_ret (results_none rfl _ _ _) rfl ⟨rfl, v3, ?_⟩
    rw [unhide HEE, ← List.append_assoc]
    exact unhide HP3
end Go.Proofs.Ytednnfmomhallaa
