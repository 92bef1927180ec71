/-
  The walk of the law WireBack: it returns true for every script, and writes nothing that was there.
-/
import Derived.Test.YtggaecmjadkopaaBack1
import Derived.Deep.DeepCutAuto
import Derived.Deep.RegionHeld3
namespace Go.Proofs.Ytggaecmjadkopaa
open Go.RowKit

theorem cellA {w : World} {b o : Nat} {v : Value} (X : Obj) (h : w.cell? ⟨b, o, none⟩ = some v) : (w.alloc X).cell? ⟨b, o, none⟩ = some v :=
  (((Below.refl _ w).alloc (Nat.le_refl _) X).cell (p := ⟨b, o, none⟩) (World.block_lt_of_cell? w _ h)).trans h

theorem cellS {w : World} {b o c d : Nat} {v u : Value} (h : w.cell? ⟨b, o, none⟩ = some v) (hne : b ≠ c) : (w.setCell ⟨c, d, none⟩ u).cell? ⟨b, o, none⟩ = some v :=
  (World.cell?_of_block ((kept_setCell w ⟨c, d, none⟩ u).block b (World.block_lt_of_cell? w _ h) hne)).trans h

/-- The cells of a new thing, before anything was laid into it. -/
abbrev Z57 : Obj := .cells #[.int .i64 0, .int .i64 0, .string ⟨#[]⟩, .slice none 0 0] 57

theorem frozen57 {w : World} {q : Nat} {cs : Array Value} (h : w.heap[q]? = some (.cells cs 57)) (i : Nat) : w.frozen? ⟨q, i, none⟩ = false := by simp [World.frozen?, h]
theorem cell57 {w : World} {q : Nat} {cs : Array Value} (h : w.heap[q]? = some (.cells cs 57)) (i : Nat) (v : Value) (hv : cs[i]? = some v) : w.cell? ⟨q, i, none⟩ = some v := by rw [cell_of_row _ _ _ _ _ _ h]; exact hv

def Made (w5 : World) (c n : Int) (nm : ByteArray) (bs : List UInt8) (u7 : Value) (wx : World) : Prop :=
  ∃ (q : Nat) (so : Option Addr) (sc : Nat), u7 = .pointer (some ⟨q, 0, none⟩) ∧ wx.heap[q]? = some (.cells #[.int .i64 c, .int .i64 n, .string nm, .slice so bs.length sc] 57 (0, 0)) ∧ OwnB wx w5.heap.size (.slice so bs.length sc) bs ∧ Below w5.heap.size w5 wx

theorem made_a {w5 w6 : World} {c n : Int} {nm : ByteArray} {bs : List UInt8} {so : Option Addr} {sc : Nat} (hB : Below w5.drew.heap.size w5.drew w6) (hO : OwnB w6 w5.drew.heap.size (.slice so bs.length sc) bs) :
    Made w5 c n nm bs (.pointer (some ⟨w6.heap.size, 0, none⟩)) (w6.alloc (.cells #[.int .i64 c, .int .i64 n, .string nm, .slice so bs.length sc] 57)) := by
  have hB' : Below w5.heap.size w5 w6 := (Below.drew (Below.refl _ w5)).trans hB
  exact ⟨_, so, sc, rfl, heap_alloc_new w6 _, OwnB.below hO ((Below.refl _ w6).alloc (Nat.le_refl _) _), hB'.alloc hB'.size _⟩
theorem made_b {w5 w7 : World} {c n : Int} {nm : ByteArray} {bs : List UInt8} {so : Option Addr} {sc : Nat} (hB : Below (w5.alloc Z57).drew.heap.size (w5.alloc Z57).drew w7) (hO : OwnB w7 (w5.alloc Z57).drew.heap.size (.slice so bs.length sc) bs) :
    Made w5 c n nm bs (.pointer (some ⟨w5.heap.size, 0, none⟩)) ((((w7.setCell ⟨w5.heap.size, 0, none⟩ (.int .i64 c)).setCell ⟨w5.heap.size, 1, none⟩ (.int .i64 n)).setCell ⟨w5.heap.size, 2, none⟩ (.string nm)).setCell ⟨w5.heap.size, 3, none⟩ (.slice so bs.length sc)) := by
  have hs : (w5.alloc Z57).drew.heap.size = w5.heap.size + 1 := World.size_alloc _ _
  have r7 : w7.heap[w5.heap.size]? = some Z57 := (hB.block _ (by omega)).trans (heap_alloc_new w5 _)
  have r0 := heap_setCell_same _ _ 0 _ _ (.int .i64 c) r7
  have r1 := heap_setCell_same _ _ 1 _ _ (.int .i64 n) r0
  have r2 := heap_setCell_same _ _ 2 _ _ (.string nm) r1
  have r3 := heap_setCell_same _ _ 3 _ _ (.slice so bs.length sc) r2
  have k0 := kept_setCell w7 ⟨w5.heap.size, 0, none⟩ (.int .i64 c)
  have k1 := kept_setCell (w7.setCell ⟨w5.heap.size, 0, none⟩ (.int .i64 c)) ⟨w5.heap.size, 1, none⟩ (.int .i64 n)
  have k2 := kept_setCell ((w7.setCell ⟨w5.heap.size, 0, none⟩ (.int .i64 c)).setCell ⟨w5.heap.size, 1, none⟩ (.int .i64 n)) ⟨w5.heap.size, 2, none⟩ (.string nm)
  have k3 := kept_setCell (((w7.setCell ⟨w5.heap.size, 0, none⟩ (.int .i64 c)).setCell ⟨w5.heap.size, 1, none⟩ (.int .i64 n)).setCell ⟨w5.heap.size, 2, none⟩ (.string nm)) ⟨w5.heap.size, 3, none⟩ (.slice so bs.length sc)
  have kk := ((k0.trans k1 (fun _ _ h => h) (fun _ _ h => h)).trans k2 (fun _ _ h => h) (fun _ _ h => h)).trans k3 (U := fun k => k = w5.heap.size) (fun _ _ h => h) (fun _ _ h => h)
  have hB' : Below w5.heap.size w5 w7 := (belowD ((Below.refl _ w5).alloc (Nat.le_refl _) Z57) 1).trans (hB.mono (by omega))
  refine ⟨_, so, sc, rfl, r3, (hO.mono (by omega)).keep kk (fun k hk e => ?_), kk.below hB' hB'.size (fun k e => by omega)⟩
  have := (hO.lt k hk).1
  omega

set_option maxHeartbeats 2000000 in
theorem walkWireBack {W0 : World} (ao : Option Addr) (cap : Nat) (L : List PutD) (h : PutsAt W0 ao L) (hfit : L.length * 64 ≤ 140737488351232) :
    Calls Try.prog 7 #[.slice ao L.length cap] W0 fun e w' => e = .returned (.bool true) ∧ Below W0.heap.size W0 w' := by
  go_enter Try.func7, Try.ntmps7
  go_wp2_with fail
  refine (New_any _).mono ?_
  rintro e w1 ⟨rfl, hW, hB⟩
  have HB := hide hB
  clear hB
  go_wp2_with fail
  refine (wByte_u hW 7).mono ?_
  rintro e w2 ⟨rfl, v2, hW2, hK2, hF2⟩
  rw [show wE [] 7 1 = 0 from by decide]
  rw [show wL [] 7 1 = [7] from by decide] at hW2
  have HS : Hid (Wb W0 (w2.alloc (.cells #[.int .i64 0, .int .i64 7, .string ⟨#[]⟩, .slice none 0 0] 57)) W0.heap.size v2 (.slice (some ⟨w2.heap.size, 0, none⟩) 1 1) [⟨0, 7, ⟨#[]⟩, none, 0, []⟩] [7]) := by
    have hb1 := unhide HB
    have hK0 : Below W0.heap.size W0 w2 := hK2.below hb1 hb1.size (fun k hk => by
      rcases hk with e | e
      · omega
      · cases e)
    have hA := (Below.refl _ w2).alloc (Nat.le_refl _) (.cells #[.int .i64 0, .int .i64 7, .string ⟨#[]⟩, .slice none 0 0] 57)
    refine hide ⟨hW2.below hA, by decide, ⟨rfl, .inr ⟨w2.heap.size, 1, #[.int .i64 0, .int .i64 7, .string ⟨#[]⟩, .slice none 0 0], rfl, hK0.size, heap_alloc_new w2 _, Nat.le_refl _, by decide, rfl, rfl⟩⟩, ?_, ?_, ?_, Nat.le_refl _, ?_, hK0.trans (hA.mono hK0.size), by simp⟩
    · intro x hx
      simp at hx
      subst hx
      exact ok7
    · intro x hx
      simp at hx
      subst hx
      exact World.ownsRow_nil _ _ _ _
    · intro x hx b hb
      simp at hx
      subst hx
      cases hb
    · intro k e
      rcases hF2 k e with e | e
      · cases e
      · exact Nat.le_trans hb1.size e
  clear hW hW2 hK2 hF2 HB
  go_wp2
  go_loopw [4, 24] (fun lv i wr => ∃ (k : Nat) (v : Value) (ws : List WD) (l : List UInt8), k ≤ L.length ∧ i = .int .i64 k ∧ Wb W0 wr W0.heap.size v lv ws l ∧ ws.length ≤ k + 1) (fun _ i _ => L.length - (intOf i).toNat)
  case atStart => exact ⟨0, _, _, _, by omega, rfl, unhide HS, by simp⟩
  case round =>
    clear HS
    obtain ⟨k, v, ws, l, hk, rfl, hS, hx⟩ := hrel
    by_cases hlt : k < L.length
    · obtain ⟨b, off, rfl, hpa⟩ := h k _ (List.getElem?_eq_getElem hlt)
      have hpw := hpa.below hS.bel
      generalize L[k] = s at hpa hpw
      have c0 := hpw.c0
      have c1 := hpw.c1
      have c2 := hpw.c2
      have c3 := hpw.c3
      have c4 := hpw.c4
      have i1 : (k : Int) < (L.length : Int) := by omega
      have HS := hide hS
      have hB := (Below.refl _ wr).alloc (Nat.le_refl _) (.cells #[.int .i64 s.op, .int .i64 s.n, .int .i64 s.at_, .string s.nm, .slice s.so s.bs.length s.sc] 45)
      have hrow : (wr.alloc (.cells #[.int .i64 s.op, .int .i64 s.n, .int .i64 s.at_, .string s.nm, .slice s.so s.bs.length s.sc] 45)).heap[wr.heap.size]? = some (.cells #[.int .i64 s.op, .int .i64 s.n, .int .i64 s.at_, .string s.nm, .slice s.so s.bs.length s.sc] 45 (0, 0)) := heap_alloc_new wr _
      have HB := hide hB
      have HRow := hide hrow
      have hbs := hpw.bytes.below' hB
      clear hB hrow hS hpw
      go_upto_region 8 with fail
      clear c0 c1 c2 c3 c4
      have hz : wr.heap.size < (wr.alloc (.cells #[.int .i64 s.op, .int .i64 s.n, .int .i64 s.at_, .string s.nm, .slice s.so s.bs.length s.sc] 45)).heap.size := by rw [World.size_alloc]; omega
      generalize wr.alloc (.cells #[.int .i64 s.op, .int .i64 s.n, .int .i64 s.at_, .string s.nm, .slice s.so s.bs.length s.sc] 45) = w5 at HB HRow hbs hz ⊢
      have b0 : w5.cell? ⟨wr.heap.size, 0, none⟩ = some (.int .i64 s.op) := by rw [cell_of_row _ _ _ _ _ _ (unhide HRow)]; rfl
      have b1 : w5.cell? ⟨wr.heap.size, 1, none⟩ = some (.int .i64 s.n) := by rw [cell_of_row _ _ _ _ _ _ (unhide HRow)]; rfl
      have b3 : w5.cell? ⟨wr.heap.size, 3, none⟩ = some (.string s.nm) := by rw [cell_of_row _ _ _ _ _ _ (unhide HRow)]; rfl
      have b4 : w5.cell? ⟨wr.heap.size, 4, none⟩ = some (.slice s.so s.bs.length s.sc) := by rw [cell_of_row _ _ _ _ _ _ (unhide HRow)]; rfl
      have hnil := hpa.nil
      have hzz : w5.heap.size < (w5.alloc Z57).drew.heap.size := by show _ < (w5.alloc Z57).heap.size; rw [World.size_alloc]; omega
      have hz7 : wr.heap.size < (w5.alloc Z57).drew.heap.size := Nat.lt_trans hz hzz
      have z0 : (w5.alloc Z57).drew.cell? ⟨wr.heap.size, 0, none⟩ = some (.int .i64 s.op) := cellA Z57 b0
      have z1 : (w5.alloc Z57).drew.cell? ⟨wr.heap.size, 1, none⟩ = some (.int .i64 s.n) := cellA Z57 b1
      have z3 : (w5.alloc Z57).drew.cell? ⟨wr.heap.size, 3, none⟩ = some (.string s.nm) := cellA Z57 b3
      have z4 : (w5.alloc Z57).drew.cell? ⟨wr.heap.size, 4, none⟩ = some (.slice s.so s.bs.length s.sc) := cellA Z57 b4
      have d0 : w5.drew.cell? ⟨wr.heap.size, 0, none⟩ = some (.int .i64 s.op) := b0
      have d1 : w5.drew.cell? ⟨wr.heap.size, 1, none⟩ = some (.int .i64 s.n) := b1
      have d3 : w5.drew.cell? ⟨wr.heap.size, 3, none⟩ = some (.string s.nm) := b3
      have d4 : w5.drew.cell? ⟨wr.heap.size, 4, none⟩ = some (.slice s.so s.bs.length s.sc) := b4
      have hzd : wr.heap.size < w5.drew.heap.size := hz
      have hzn : wr.heap.size ≠ w5.heap.size := by omega
      have hf1 := hpa.fit
      go_cut [7] (fun u7 wx => Made w5 (pickN s.op 5 : Int) s.n s.nm s.bs u7 wx)
      case first =>
        go_region_held3 (fun w' => w'.cell? ⟨wr.heap.size, 0, none⟩ = some (.int .i64 s.op) ∧ w'.cell? ⟨wr.heap.size, 1, none⟩ = some (.int .i64 s.n) ∧ w'.cell? ⟨wr.heap.size, 3, none⟩ = some (.string s.nm) ∧ w'.cell? ⟨wr.heap.size, 4, none⟩ = some (.slice s.so s.bs.length s.sc)) (first | with_reducible exact ⟨(hB6.cell (p := ⟨wr.heap.size, 0, none⟩) hzd).trans d0, (hB6.cell (p := ⟨wr.heap.size, 1, none⟩) hzd).trans d1, (hB6.cell (p := ⟨wr.heap.size, 3, none⟩) hzd).trans d3, (hB6.cell (p := ⟨wr.heap.size, 4, none⟩) hzd).trans d4⟩ | with_reducible exact ⟨cellA _ ((hB6.cell (p := ⟨wr.heap.size, 0, none⟩) hzd).trans d0), cellA _ ((hB6.cell (p := ⟨wr.heap.size, 1, none⟩) hzd).trans d1), cellA _ ((hB6.cell (p := ⟨wr.heap.size, 3, none⟩) hzd).trans d3), cellA _ ((hB6.cell (p := ⟨wr.heap.size, 4, none⟩) hzd).trans d4)⟩ | with_reducible exact ⟨((hB7.cell (p := ⟨wr.heap.size, 0, none⟩) hz7).trans z0), ((hB7.cell (p := ⟨wr.heap.size, 1, none⟩) hz7).trans z1), ((hB7.cell (p := ⟨wr.heap.size, 3, none⟩) hz7).trans z3), ((hB7.cell (p := ⟨wr.heap.size, 4, none⟩) hz7).trans z4)⟩ | with_reducible exact ⟨cellS (cellS (cellS (cellS ((hB7.cell (p := ⟨wr.heap.size, 0, none⟩) hz7).trans z0) hzn) hzn) hzn) hzn, cellS (cellS (cellS (cellS ((hB7.cell (p := ⟨wr.heap.size, 1, none⟩) hz7).trans z1) hzn) hzn) hzn) hzn, cellS (cellS (cellS (cellS ((hB7.cell (p := ⟨wr.heap.size, 3, none⟩) hz7).trans z3) hzn) hzn) hzn) hzn, cellS (cellS (cellS (cellS ((hB7.cell (p := ⟨wr.heap.size, 4, none⟩) hz7).trans z4) hzn) hzn) hzn) hzn⟩ | go_keep) (first | (go_at_call 12; refine (pick_any s.op 5 _ (by omega) (by omega)).mono ?_; rintro e w6 ⟨rfl, rfl⟩) | (go_at_call 25; refine (Clone_any s.so s.sc s.bs w5.drew (hbs.below' (belowD (Below.refl _ w5) 1)) (fun e => (hnil e).1) (by omega)).mono ?_; rintro e w6 ⟨v6, rfl, hO6, hB6, hN6⟩; obtain ⟨so6, sc6, rfl, hb6⟩ := hO6.at) | (go_at_call 25; refine (Clone_any s.so s.sc s.bs (w5.alloc Z57).drew (hbs.below' (belowD ((Below.refl _ w5).alloc (Nat.le_refl _) _) 1)) (fun e => (hnil e).1) (by omega)).mono ?_; rintro e w7 ⟨v7, rfl, hO7, hB7, hN7⟩; obtain ⟨so7, sc7, rfl, hb7⟩ := hO7.at; have r7 : w7.heap[w5.heap.size]? = some Z57 := (hB7.block _ (hzz)).trans (heap_alloc_new w5 _); have fz0 : w7.frozen? ⟨w5.heap.size, 0, none⟩ = false := frozen57 r7 0; have fz1 : w7.frozen? ⟨w5.heap.size, 1, none⟩ = false := frozen57 r7 1; have fz2 : w7.frozen? ⟨w5.heap.size, 2, none⟩ = false := frozen57 r7 2; have fz3 : w7.frozen? ⟨w5.heap.size, 3, none⟩ = false := frozen57 r7 3; have y0 : w7.cell? ⟨w5.heap.size, 0, none⟩ = some (.int .i64 0) := cell57 r7 0 _ rfl; have y1 : w7.cell? ⟨w5.heap.size, 1, none⟩ = some (.int .i64 0) := cell57 r7 1 _ rfl; have y2 : w7.cell? ⟨w5.heap.size, 2, none⟩ = some (.string ⟨#[]⟩) := cell57 r7 2 _ rfl; have y3 : w7.cell? ⟨w5.heap.size, 3, none⟩ = some (.slice none 0 0) := cell57 r7 3 _ rfl; clear r7))
        all_goals (go_wp2_with fail; go_meet; first | (have := hB6; exact made_a hB6 hO6) | exact made_b hB7 hO7)
      case rest =>
        obtain ⟨q, so, sc, rfl, hq, hO, hBc⟩ := hcut
        obtain ⟨x, HX, hx1, hx2, hx3, hx4, hx5, hx6⟩ : ∃ x : WD, Hid (x.op = pickN s.op 5) ∧ x.op < 5 ∧ s.n = x.n ∧ s.nm = x.nm ∧ so = x.so ∧ sc = x.sc ∧ s.bs = x.bs := ⟨⟨pickN s.op 5, s.n, s.nm, so, sc, s.bs⟩, hide rfl, pickN_lt s.op 5 (by omega), rfl, rfl, rfl, rfl, rfl⟩
        have hB5 : Below wr.heap.size wr wc := (unhide HB).trans (hBc.mono (unhide HB).size)
        have hx7 := hpa.name
        have d1 := (hBc.cell (p := ⟨wr.heap.size, 1, none⟩) hz).trans b1
        have d3 := (hBc.cell (p := ⟨wr.heap.size, 3, none⟩) hz).trans b3
        have d4 := (hBc.cell (p := ⟨wr.heap.size, 4, none⟩) hz).trans b4
        have hrw := (hBc.block _ hz).trans (unhide HRow)
        have hsb := hbs.below' hBc
        rw [← unhide HX] at hq
        rw [hx2, hx3, hx4, hx5, hx6] at hq
        rw [hx4, hx5, hx6] at hO
        have hW := (unhide HS).make hB5 (OwnB.mono hO (unhide HB).size) hq
        have hok := (unhide HS).ok
        have HEL := hide (unhide HS).el
        have hpos := (unhide HS).pos
        rw [hx2] at d1
        rw [hx3] at d3 hx7
        rw [hx6] at d4 hsb hnil hf1
        generalize s.so = to_ at d4 hsb hnil
        generalize s.sc = tc at d4 hnil
        clear b0 b1 b3 b4 z0 z1 z3 z4 HS HB HRow hbs hO hB5 hBc hzz hz7 hzd hzn hx2 hx3 hx4 hx5 hx6 HX hq
        -- the five ways
        have hcs : x.op = 0 ∨ x.op = 1 ∨ x.op = 2 ∨ x.op = 3 ∨ x.op = 4 := by omega
        rcases hcs with hc | hc | hc | hc | hc
        · have q0 : wc.cell? ⟨q, 0, none⟩ = some (.int .i64 0) := by rw [cell57 hW.box 0 _ rfl, hc]; rfl
          have told := num_told (l := l) (x := x) (s := 1) (by simp [WD.enc, hc]) (fun hh => ⟨fun e => by first | exact hh | omega, fun e => by first | exact hh | omega, fun e => by first | exact hh | omega, fun e => by omega, hx1⟩)
          go_wp2_with fail
          refine (wByte_u hW.wr x.n).mono ?_
          rintro e w6 ⟨rfl, v6, hW6, hK6, hF6⟩
          have hX := hW.wrote hW6 hK6 hF6
          clear q0
          generalize wE l x.n 1 = code at hX told ⊢
          generalize wL l x.n 1 = l6 at hX told
          clear hW6 hK6 hF6 hW d1 d3 d4 hsb hc
          rcases told with ⟨rfl, hl6, hxo⟩ | ⟨hc0, hl6⟩
          · have y0 := cell57 hX.box 0 _ rfl
            have y1 := cell57 hX.box 1 _ rfl
            have y2 := cell57 hX.box 2 _ rfl
            have y3 := cell57 hX.box 3 _ rfl
            have HX := hide hX
            have HL : Hid (l6 = ws.flatMap WD.enc ++ x.enc) := hide (by rw [hl6, unhide HEL])
            have HA := hide (hX.below ((Below.refl _ w6).alloc (Nat.le_refl _) (.cells #[.int .i64 (x.op : Int), .int .i64 x.n, .string x.nm, .slice x.so x.bs.length x.sc] 57)))
            have HC := hide (four_cells w6 x)
            clear hX hl6
            obtain ⟨i0, hi, hz0, hz1, hz2⟩ := info_parts info57
            go_wp2_with (at_builtin; (refine wpList_append_own_at _ rfl _ _ 58 rfl W0.heap.size 57 i0 (.agg #[.int .i64 0, .int .i64 0, .string ⟨#[]⟩, .slice none 0 0]) 4 56 Try.underlying58 hi hz0 hz1 hz2 cells57 (by decide) _ ws.length (ws.flatMap WD.cells) rfl (unhide HA).row ⟨w6.heap.size, 0, none⟩ 1 1 x.cells rfl x.len4 (unhide HC) x.one ?a3 ?a4 ?a5 ?_))
            case a3 => unfold maxLen; omega
            case a4 => omega
            case a5 => have := (unhide HA).bel.size; exact this
            intro lv' w7 hO7 hG7 _ hF7
            have HS8 := hide ((unhide HA).push hok hxo (unhide HL) hO7 hG7)
            clear hO7 hG7 hF7 HA HC HX HL y0 y1 y2 y3
            go_wp2
            go_roundw
            case rel => exact ⟨k + 1, v6, ws ++ [x], l6, by omega, by go_num, unhide HS8, by simp; omega⟩
            case measure => simp [intOf]; omega
          · have hcf : (code == 0) = false := beq_f hc0
            have HS8 := hide (hX.drop hok (hl6.trans (unhide HEL)) hpos)
            clear hX
            go_wp2
            go_roundw
            case rel => exact ⟨k + 1, v6, ws, l6, by omega, by go_num, unhide HS8, by omega⟩
            case measure => simp [intOf]; omega
        · have q0 : wc.cell? ⟨q, 0, none⟩ = some (.int .i64 1) := by rw [cell57 hW.box 0 _ rfl, hc]; rfl
          have told := num_told (l := l) (x := x) (s := 2) (by simp [WD.enc, hc]) (fun hh => ⟨fun e => by first | exact hh | omega, fun e => by first | exact hh | omega, fun e => by first | exact hh | omega, fun e => by omega, hx1⟩)
          go_wp2_with fail
          refine (wWord_u hW.wr x.n).mono ?_
          rintro e w6 ⟨rfl, v6, hW6, hK6, hF6⟩
          have hX := hW.wrote hW6 hK6 hF6
          clear q0
          generalize wE l x.n 2 = code at hX told ⊢
          generalize wL l x.n 2 = l6 at hX told
          clear hW6 hK6 hF6 hW d1 d3 d4 hsb hc
          rcases told with ⟨rfl, hl6, hxo⟩ | ⟨hc0, hl6⟩
          · have y0 := cell57 hX.box 0 _ rfl
            have y1 := cell57 hX.box 1 _ rfl
            have y2 := cell57 hX.box 2 _ rfl
            have y3 := cell57 hX.box 3 _ rfl
            have HX := hide hX
            have HL : Hid (l6 = ws.flatMap WD.enc ++ x.enc) := hide (by rw [hl6, unhide HEL])
            have HA := hide (hX.below ((Below.refl _ w6).alloc (Nat.le_refl _) (.cells #[.int .i64 (x.op : Int), .int .i64 x.n, .string x.nm, .slice x.so x.bs.length x.sc] 57)))
            have HC := hide (four_cells w6 x)
            clear hX hl6
            obtain ⟨i0, hi, hz0, hz1, hz2⟩ := info_parts info57
            go_wp2_with (at_builtin; (refine wpList_append_own_at _ rfl _ _ 58 rfl W0.heap.size 57 i0 (.agg #[.int .i64 0, .int .i64 0, .string ⟨#[]⟩, .slice none 0 0]) 4 56 Try.underlying58 hi hz0 hz1 hz2 cells57 (by decide) _ ws.length (ws.flatMap WD.cells) rfl (unhide HA).row ⟨w6.heap.size, 0, none⟩ 1 1 x.cells rfl x.len4 (unhide HC) x.one ?a3 ?a4 ?a5 ?_))
            case a3 => unfold maxLen; omega
            case a4 => omega
            case a5 => have := (unhide HA).bel.size; exact this
            intro lv' w7 hO7 hG7 _ hF7
            have HS8 := hide ((unhide HA).push hok hxo (unhide HL) hO7 hG7)
            clear hO7 hG7 hF7 HA HC HX HL y0 y1 y2 y3
            go_wp2
            go_roundw
            case rel => exact ⟨k + 1, v6, ws ++ [x], l6, by omega, by go_num, unhide HS8, by simp; omega⟩
            case measure => simp [intOf]; omega
          · have hcf : (code == 0) = false := beq_f hc0
            have HS8 := hide (hX.drop hok (hl6.trans (unhide HEL)) hpos)
            clear hX
            go_wp2
            go_roundw
            case rel => exact ⟨k + 1, v6, ws, l6, by omega, by go_num, unhide HS8, by omega⟩
            case measure => simp [intOf]; omega
        · have q0 : wc.cell? ⟨q, 0, none⟩ = some (.int .i64 2) := by rw [cell57 hW.box 0 _ rfl, hc]; rfl
          have told := num_told (l := l) (x := x) (s := 4) (by simp [WD.enc, hc]) (fun hh => ⟨fun e => by first | exact hh | omega, fun e => by first | exact hh | omega, fun e => by first | exact hh | omega, fun e => by omega, hx1⟩)
          go_wp2_with fail
          refine (wLong_u hW.wr x.n).mono ?_
          rintro e w6 ⟨rfl, v6, hW6, hK6, hF6⟩
          have hX := hW.wrote hW6 hK6 hF6
          clear q0
          generalize wE l x.n 4 = code at hX told ⊢
          generalize wL l x.n 4 = l6 at hX told
          clear hW6 hK6 hF6 hW d1 d3 d4 hsb hc
          rcases told with ⟨rfl, hl6, hxo⟩ | ⟨hc0, hl6⟩
          · have y0 := cell57 hX.box 0 _ rfl
            have y1 := cell57 hX.box 1 _ rfl
            have y2 := cell57 hX.box 2 _ rfl
            have y3 := cell57 hX.box 3 _ rfl
            have HX := hide hX
            have HL : Hid (l6 = ws.flatMap WD.enc ++ x.enc) := hide (by rw [hl6, unhide HEL])
            have HA := hide (hX.below ((Below.refl _ w6).alloc (Nat.le_refl _) (.cells #[.int .i64 (x.op : Int), .int .i64 x.n, .string x.nm, .slice x.so x.bs.length x.sc] 57)))
            have HC := hide (four_cells w6 x)
            clear hX hl6
            obtain ⟨i0, hi, hz0, hz1, hz2⟩ := info_parts info57
            go_wp2_with (at_builtin; (refine wpList_append_own_at _ rfl _ _ 58 rfl W0.heap.size 57 i0 (.agg #[.int .i64 0, .int .i64 0, .string ⟨#[]⟩, .slice none 0 0]) 4 56 Try.underlying58 hi hz0 hz1 hz2 cells57 (by decide) _ ws.length (ws.flatMap WD.cells) rfl (unhide HA).row ⟨w6.heap.size, 0, none⟩ 1 1 x.cells rfl x.len4 (unhide HC) x.one ?a3 ?a4 ?a5 ?_))
            case a3 => unfold maxLen; omega
            case a4 => omega
            case a5 => have := (unhide HA).bel.size; exact this
            intro lv' w7 hO7 hG7 _ hF7
            have HS8 := hide ((unhide HA).push hok hxo (unhide HL) hO7 hG7)
            clear hO7 hG7 hF7 HA HC HX HL y0 y1 y2 y3
            go_wp2
            go_roundw
            case rel => exact ⟨k + 1, v6, ws ++ [x], l6, by omega, by go_num, unhide HS8, by simp; omega⟩
            case measure => simp [intOf]; omega
          · have hcf : (code == 0) = false := beq_f hc0
            have HS8 := hide (hX.drop hok (hl6.trans (unhide HEL)) hpos)
            clear hX
            go_wp2
            go_roundw
            case rel => exact ⟨k + 1, v6, ws, l6, by omega, by go_num, unhide HS8, by omega⟩
            case measure => simp [intOf]; omega
        · have q0 : wc.cell? ⟨q, 0, none⟩ = some (.int .i64 3) := by rw [cell57 hW.box 0 _ rfl, hc]; rfl
          have told := put_told (l := l) (x := x) (by simp [WD.enc, hc]) ⟨fun e => by omega, fun e => by omega, fun e => by omega, fun e => by omega, hx1⟩
          go_wp2_with fail
          refine (Clone_any to_ tc x.bs _ hsb (fun e => (hnil e).1) (by omega)).mono ?_
          rintro e w5c ⟨v5, rfl, hO5, hB5, _⟩
          have hW5 := hW.below hB5
          go_wp2_with fail
          refine (Put_u hW5.wr v5 x.bs hO5.src (by omega)).mono ?_
          rintro e w6 ⟨rfl, v6, hW6, hK6, hF6⟩
          have hX := hW5.wrote hW6 hK6 hF6
          clear q0 hO5 hB5 hW5
          generalize jE l x.bs = code at hX told ⊢
          generalize jL l x.bs = l6 at hX told
          clear hW6 hK6 hF6 hW d1 d3 d4 hsb hc
          rcases told with ⟨rfl, hl6, hxo⟩ | ⟨hc0, hl6⟩
          · have y0 := cell57 hX.box 0 _ rfl
            have y1 := cell57 hX.box 1 _ rfl
            have y2 := cell57 hX.box 2 _ rfl
            have y3 := cell57 hX.box 3 _ rfl
            have HX := hide hX
            have HL : Hid (l6 = ws.flatMap WD.enc ++ x.enc) := hide (by rw [hl6, unhide HEL])
            have HA := hide (hX.below ((Below.refl _ w6).alloc (Nat.le_refl _) (.cells #[.int .i64 (x.op : Int), .int .i64 x.n, .string x.nm, .slice x.so x.bs.length x.sc] 57)))
            have HC := hide (four_cells w6 x)
            clear hX hl6
            obtain ⟨i0, hi, hz0, hz1, hz2⟩ := info_parts info57
            go_wp2_with (at_builtin; (refine wpList_append_own_at _ rfl _ _ 58 rfl W0.heap.size 57 i0 (.agg #[.int .i64 0, .int .i64 0, .string ⟨#[]⟩, .slice none 0 0]) 4 56 Try.underlying58 hi hz0 hz1 hz2 cells57 (by decide) _ ws.length (ws.flatMap WD.cells) rfl (unhide HA).row ⟨w6.heap.size, 0, none⟩ 1 1 x.cells rfl x.len4 (unhide HC) x.one ?a3 ?a4 ?a5 ?_))
            case a3 => unfold maxLen; omega
            case a4 => omega
            case a5 => have := (unhide HA).bel.size; exact this
            intro lv' w7 hO7 hG7 _ hF7
            have HS8 := hide ((unhide HA).push hok hxo (unhide HL) hO7 hG7)
            clear hO7 hG7 hF7 HA HC HX HL y0 y1 y2 y3
            go_wp2
            go_roundw
            case rel => exact ⟨k + 1, v6, ws ++ [x], l6, by omega, by go_num, unhide HS8, by simp; omega⟩
            case measure => simp [intOf]; omega
          · have hcf : (code == 0) = false := beq_f hc0
            have HS8 := hide (hX.drop hok (hl6.trans (unhide HEL)) hpos)
            clear hX
            go_wp2
            go_roundw
            case rel => exact ⟨k + 1, v6, ws, l6, by omega, by go_num, unhide HS8, by omega⟩
            case measure => simp [intOf]; omega
        · have q0 : wc.cell? ⟨q, 0, none⟩ = some (.int .i64 4) := by rw [cell57 hW.box 0 _ rfl, hc]; rfl
          have told := name_told (l := l) (x := x) (by simp [WD.enc, hc]) (fun hh => ⟨fun e => by omega, fun e => by omega, fun e => by omega, fun _ => hh, hx1⟩)
          go_wp2_with fail
          refine (wName_u hW.wr x.nm (by unfold maxLen; omega)).mono ?_
          rintro e w6 ⟨rfl, v6, hW6, hK6, hF6⟩
          have hX := hW.wrote hW6 hK6 hF6
          clear q0
          generalize nE l x.nm = code at hX told ⊢
          generalize nL l x.nm = l6 at hX told
          clear hW6 hK6 hF6 hW d1 d3 d4 hsb hc
          rcases told with ⟨rfl, hl6, hxo⟩ | ⟨hc0, hl6⟩
          · have y0 := cell57 hX.box 0 _ rfl
            have y1 := cell57 hX.box 1 _ rfl
            have y2 := cell57 hX.box 2 _ rfl
            have y3 := cell57 hX.box 3 _ rfl
            have HX := hide hX
            have HL : Hid (l6 = ws.flatMap WD.enc ++ x.enc) := hide (by rw [hl6, unhide HEL])
            have HA := hide (hX.below ((Below.refl _ w6).alloc (Nat.le_refl _) (.cells #[.int .i64 (x.op : Int), .int .i64 x.n, .string x.nm, .slice x.so x.bs.length x.sc] 57)))
            have HC := hide (four_cells w6 x)
            clear hX hl6
            obtain ⟨i0, hi, hz0, hz1, hz2⟩ := info_parts info57
            go_wp2_with (at_builtin; (refine wpList_append_own_at _ rfl _ _ 58 rfl W0.heap.size 57 i0 (.agg #[.int .i64 0, .int .i64 0, .string ⟨#[]⟩, .slice none 0 0]) 4 56 Try.underlying58 hi hz0 hz1 hz2 cells57 (by decide) _ ws.length (ws.flatMap WD.cells) rfl (unhide HA).row ⟨w6.heap.size, 0, none⟩ 1 1 x.cells rfl x.len4 (unhide HC) x.one ?a3 ?a4 ?a5 ?_))
            case a3 => unfold maxLen; omega
            case a4 => omega
            case a5 => have := (unhide HA).bel.size; exact this
            intro lv' w7 hO7 hG7 _ hF7
            have HS8 := hide ((unhide HA).push hok hxo (unhide HL) hO7 hG7)
            clear hO7 hG7 hF7 HA HC HX HL y0 y1 y2 y3
            go_wp2
            go_roundw
            case rel => exact ⟨k + 1, v6, ws ++ [x], l6, by omega, by go_num, unhide HS8, by simp; omega⟩
            case measure => simp [intOf]; omega
          · have hcf : (code == 0) = false := beq_f hc0
            have HS8 := hide (hX.drop hok (hl6.trans (unhide HEL)) hpos)
            clear hX
            go_wp2
            go_roundw
            case rel => exact ⟨k + 1, v6, ws, l6, by omega, by go_num, unhide HS8, by omega⟩
            case measure => simp [intOf]; omega
    · have hlen := hS.wr.len
      have HF := hide hS.el
      obtain ⟨lg, lc, rfl⟩ := hS.len
      go_wp2_with fail
      refine (Bytes_any hS.wr).mono ?_
      rintro e w3 ⟨rfl, hO3, hB3⟩
      have hS3 := hS.below hB3
      obtain ⟨ao3, cap3, hxx, hb3⟩ := hO3.at
      injection hxx with hx1 hx2 hx3
      subst hx1
      clear hx2 hx3
      go_wp2_with fail
      refine (Over_any (some ⟨wr.heap.size, 0, none⟩) l.length l w3 hb3 (by omega)).mono ?_
      rintro e w4 ⟨p, g, rfl, hp, hg, hR, hB4⟩
      clear hO3 hB3 hb3 hS
      have hpos := hS3.pos
      go_wp2
      go_loopw [84] (fun i wr => ∃ (k : Nat), k ≤ ws.length ∧ i = .int .i64 k ∧ IsReader wr p g l.length l ((ws.take k).flatMap WD.enc).length ∧ Below w3.heap.size w3 wr) (fun i _ => ws.length - (intOf i).toNat)
      case atStart => exact ⟨0, by omega, rfl, by simpa using hR, hB4⟩
      case round =>
        clear hR hB4
        obtain ⟨k, hk, rfl, hR, hB⟩ := hrel
        have hSw := hS3.below hB
        by_cases hlt : k < ws.length
        · obtain ⟨x, hx1⟩ : ∃ x, ws[k]? = some x := ⟨_, List.getElem?_eq_getElem hlt⟩
          have i1 : (k : Int) < (ws.length : Int) := by omega
          have c0 : wr.cell? ⟨lg, k * 4, none⟩ = some (.int .i64 (x.op : Int)) := hSw.cell hx1 (j := 0) (by omega)
          have c1 : wr.cell? ⟨lg, k * 4 + 1, none⟩ = some (.int .i64 x.n) := hSw.cell hx1 (j := 1) (by omega)
          have c2 : wr.cell? ⟨lg, k * 4 + 2, none⟩ = some (.string x.nm) := hSw.cell hx1 (j := 2) (by omega)
          have c3 : wr.cell? ⟨lg, k * 4 + 3, none⟩ = some (.slice x.so x.bs.length x.sc) := hSw.cell hx1 (j := 3) (by omega)
          have hd : l.drop ((ws.take k).flatMap WD.enc).length = x.enc ++ (ws.drop (k + 1)).flatMap WD.enc := by rw [unhide HF]; exact flat_drop hx1
          have HT := hide (flat_take hx1)
          have hmem : x ∈ ws := List.mem_of_getElem? hx1
          have hA := (Below.refl _ wr).alloc (Nat.le_refl _) (.cells #[.int .i64 (x.op : Int), .int .i64 x.n, .string x.nm, .slice x.so x.bs.length x.sc] 57)
          have HR := hide (hR.below hA)
          have HAt := hide ((hSw.at hmem).below' hA)
          have HO := hide (hSw.ok x hmem)
          have HB := hide (hB.trans (hA.mono hB.size))
          have HD := hide hd
          clear hd hR hSw hA hB hx1 hmem
          generalize ((ws.take k).flatMap WD.enc).length = off at HR HD HT
          go_wp2_with fail
          refine (again_any (unhide HR) x (unhide HAt) (unhide HO) (unhide HD)).mono ?_
          rintro e w6 ⟨rfl, hR6, hK6⟩
          rw [← unhide HT] at hR6
          have HR6 := hide hR6
          have HB6 := hide (hK6.below (unhide HB) (unhide HB).size (fun y e => by rw [e]; exact hp))
          clear hR6 hK6 HR HAt HO HB HD HT c0 c1 c2 c3
          go_wp2
          go_roundw
          case rel => exact ⟨k + 1, by omega, by go_num, unhide HR6, unhide HB6⟩
          case measure => simp [intOf]; omega
        · have hE : ((ws.take k).flatMap WD.enc).length = l.length := by rw [List.take_of_length_le (by omega), unhide HF]
          rw [hE] at hR
          clear hE
          go_wp2_with fail
          refine (End_any hR).mono ?_
          rintro e w6 ⟨rfl, j, rfl⟩
          rw [if_neg (Nat.lt_irrefl _)]
          have hBe := belowD hSw.bel j
          clear hSw hB hR
          go_wp2
          go_ret
          exact ⟨rfl, hBe⟩
end Go.Proofs.Ytggaecmjadkopaa
