/- What slices.DeleteFunc answers at what is kept of places, by isOpen: those with two votes, in their order. Conditions: a row that the call owns. -/
import Derived.Test.YtclajbadeclbdaaDoorFd
namespace Go.Proofs.YtclajbadeclbdaaDoor
open Go.RowKit
open Num
set_option linter.unusedVariables false
theorem gr_set (w : World) (q j : Nat) (u : Value) : w.grownBy (w.setCell ⟨q, j, none⟩ u) (some q) :=
  ⟨rfl, rfl, rfl, by simp, fun k _ hk => heap_setCell_other w ⟨q, j, none⟩ k u (fun e => hk (by simp [e]))⟩
theorem gr_trans {a b c : World} {r : Option Nat} (h : a.grownBy b r) (k : b.grownBy c r) : a.grownBy c r :=
  ⟨k.os.trans h.os, k.tape.trans h.tape, k.output.trans h.output, Nat.le_trans h.size k.size, fun n hn hne => (k.block n (Nat.lt_of_lt_of_le hn h.size) hne).trans (h.block n hn hne)⟩
theorem gr_bel {a b c : World} {r : Option Nat} (h : a.grownBy b r) (k : Below b.heap.size b c) : a.grownBy c r := gr_trans h (grown_of k)
theorem gr_set12 (w : World) (q j : Nat) (u0 u1 u2 u3 u4 u5 u6 u7 u8 u9 u10 u11 : Value) :
    w.grownBy ((((((((((((w.setCell ⟨q, j * 12, none⟩ u0).setCell ⟨q, j * 12 + 1, none⟩ u1).setCell ⟨q, j * 12 + 2, none⟩ u2).setCell ⟨q, j * 12 + 3, none⟩ u3).setCell ⟨q, j * 12 + 4, none⟩ u4).setCell ⟨q, j * 12 + 5, none⟩ u5).setCell ⟨q, j * 12 + 6, none⟩ u6).setCell ⟨q, j * 12 + 7, none⟩ u7).setCell ⟨q, j * 12 + 8, none⟩ u8).setCell ⟨q, j * 12 + 9, none⟩ u9).setCell ⟨q, j * 12 + 10, none⟩ u10).setCell ⟨q, j * 12 + 11, none⟩ u11) (some q) := by
  exact gr_trans (gr_trans (gr_trans (gr_trans (gr_trans (gr_trans (gr_trans (gr_trans (gr_trans (gr_trans (gr_trans (gr_set _ _ _ _) (gr_set _ _ _ _)) (gr_set _ _ _ _)) (gr_set _ _ _ _)) (gr_set _ _ _ _)) (gr_set _ _ _ _)) (gr_set _ _ _ _)) (gr_set _ _ _ _)) (gr_set _ _ _ _)) (gr_set _ _ _ _)) (gr_set _ _ _ _)) (gr_set _ _ _ _)
theorem cell_off (w : World) (q j k : Nat) (u : Value) (h : j ≠ k) : (w.setCell ⟨q, j, none⟩ u).cell? ⟨q, k, none⟩ = w.cell? ⟨q, k, none⟩ :=
  World.cell?_setCell_other _ _ _ _ (fun e => h (by injection e))
theorem full_len (F : List Ent) : (full F).length ≤ F.length := List.length_filter_le _ _
set_option maxHeartbeats 3200000 in
set_option maxRecDepth 100000 in
theorem delete_func (v : Value) (F : List Ent) (B : Nat) (w : World) (hO : OwnE w B v F) (hS : SF F) (hlen : F.length ≤ 9223372036854775807) :
    Calls Tryd.prog 49 #[v, .func (.func 48) #[] #[]] w fun e w' => ∃ v', e = .returned v' ∧ OwnE w' B v' (full F) ∧ w.grownBy w' v.ownBlock := by
  obtain ⟨a, cap, rfl, hE, hcap, hcm⟩ := hO.o
  have HO : Hid (OwnE w B (.slice a F.length cap) F) := hO
  have HE : Hid (EO w a F) := hE
  have HS : Hid (SF F) := hS
  have kI := fun W (h : EO W a F) => index_func a F cap W h HS.out hlen
  clear hO hE hS
  go_enter Tryd.func49, Tryd.ntmps49
  go_wp2_with fail
  refine (kI _ HE.out).mono ?_
  rintro ee w1 ⟨r, rfl, HIX, b1⟩
  have HO1 : Hid (OwnE w1 B (.slice a F.length cap) F) := own_hold HO.out b1
  have HG1 : Hid (w.grownBy w1 (Value.slice a F.length cap).ownBlock) := grown_of b1
  clear b1 kI
  rcases HIX.out with ⟨rfl, hfull⟩ | ⟨k, rfl, hk, hnone, hft⟩
  · have HF : Hid (full F = F) := hfull
    clear hfull HIX
    go_wp2
    go_ret
    exact ⟨_, rfl, by rw [HF.out]; exact HO1.out, HG1.out⟩
  · rcases HE.out with h0 | ⟨q, rfl, hq, hc⟩
    · omega
    clear hc HIX HE
    have HG2 : Hid (w.grownBy w1 (some q)) := HG1.out
    have HFT : Hid (full (F.take (k + 1)) = F.take k) := by
      show _ = _
      rw [full_snoc hk, hnone]; exact hft
    clear HG1 hnone hft
    have hk1 : ¬ (k : Int) = -1 := by omega
    go_wp2
    go_loopw [5, 6] (fun iv jv wr => ∃ (i n : Nat) (G : List Ent), iv = .int .i64 i ∧ jv = .int .i64 n ∧ i < n ∧ n ≤ F.length ∧ Hid (G.length = F.length) ∧ Hid (G.take i = full (F.take n)) ∧ Hid (G.drop n = F.drop n) ∧ Hid (OwnE wr B (.slice (some ⟨q, 0, none⟩) G.length cap) G) ∧ Hid (w.grownBy wr (some q))) (fun _ jv _ => F.length - (intOf jv).toNat)
    case atStart => exact ⟨k, k + 1, F, rfl, by go_num, by omega, by omega, rfl, HFT.out.symm, rfl, HO1, HG2⟩
    case round =>
      obtain ⟨i, n, G, rfl, rfl, hin, hn, HL, HT, HD, HW, HG⟩ := hrel
      clear HO1 HG2 HFT
      by_cases hlt : n < F.length
      · have hltz : (n : Int) < (F.length : Int) := by omega
        have hiz : (i : Int) < (F.length : Int) := by omega
        have hnG : n < G.length := by rw [HL.out]; exact hlt
        have hiG : i < G.length := by rw [HL.out]; omega
        have hGF : G[n] = F[n] := by
          have h1 := HD.out
          rw [List.drop_eq_getElem_cons hnG, List.drop_eq_getElem_cons hlt] at h1
          injection h1
        have HD2 : Hid (G.drop (n + 1) = F.drop (n + 1)) := by
          have h1 := HD.out
          rw [List.drop_eq_getElem_cons hnG, List.drop_eq_getElem_cons hlt] at h1
          injection h1
        have hck := fun c hc' => HW.out.at n hnG c hc'
        have hpos : ∀ b, F[n].2 = some b → 1 ≤ b.x.h := fun b hb => sgB_pos (evB_iff.1 (HS.out _ (List.getElem_mem hlt) b hb)).2.1
        have HFs := full_snoc hlt
        rw [hGF] at hck
        clear hGF
        obtain ⟨e, he⟩ : ∃ e, F[n] = e := ⟨_, rfl⟩
        rw [he] at hck HFs hpos
        have kO := fun W => impl_open e hpos W
        have HFn : Hid (full (F.take (n + 1)) = (bif e.2.isNone then full (F.take n) else full (F.take n) ++ [e])) := HFs
        have hd := twelve (e := e) (a := e.1) (b := e.2.getD zSv) rfl hck
        have HEE : Hid (entL e = eLs e.1 (e.2.getD zSv)) := rfl
        clear HFs hpos he hck
        obtain ⟨x, ob⟩ := e
        have HEE2 : Hid (entL (x, ob) = eLs x (ob.getD zSv)) := rfl
        simp only at kO hd HFn
        clear HEE
        generalize ob.getD zSv = y at *
        generalize ob.isNone = t at *
        obtain ⟨⟨h, r, s, i', v⟩, g⟩ := x
        obtain ⟨⟨h', r', s', j', v'⟩, g'⟩ := y
        unfold eV at kO
        simp only at kO hd
        obtain ⟨c0, c1, c2, c3, c4, c5, c6, c7, c8, c9, c10, c11⟩ := hd
        obtain ⟨wa, hwa⟩ : ∃ W, wr.alloc (.cells [.int .i64 h, .int .i64 r, .int .i64 s, .string i', .int .i64 v, .string g, .int .i64 h', .int .i64 r', .int .i64 s', .string j', .int .i64 v', .string g'].toArray 34) = W := ⟨_, rfl⟩
        have HY : Hid (Blk wa wr.heap.size [.int .i64 h, .int .i64 r, .int .i64 s, .string i', .int .i64 v, .string g, .int .i64 h', .int .i64 r', .int .i64 s', .string j', .int .i64 v', .string g'] 34) := by rw [← hwa]; exact blk_new wr _ _
        have HW2 : Hid (OwnE wa B (.slice (some ⟨q, 0, none⟩) G.length cap) G) := by rw [← hwa]; exact World.ownsRow.alloc HW.out _
        have HG2 : Hid (w.grownBy wa (some q)) := by rw [← hwa]; exact gr_bel HG.out (below_one _ _)
        have z0 := HY.out.cell 0 rfl
        have z1 := HY.out.cell 1 rfl
        have z2 := HY.out.cell 2 rfl
        have z3 := HY.out.cell 3 rfl
        have z4 := HY.out.cell 4 rfl
        have z5 := HY.out.cell 5 rfl
        have z6 := HY.out.cell 6 rfl
        have z7 := HY.out.cell 7 rfl
        have z8 := HY.out.cell 8 rfl
        have z9 := HY.out.cell 9 rfl
        have z10 := HY.out.cell 10 rfl
        have z11 := HY.out.cell 11 rfl
        go_wp2_with fail
        clear c0 c1 c2 c3 c4 c5 c6 c7 c8 c9 c10 c11 z0 z1 z2 z3 z4 z5 z6 z7 z8 z9 z10 z11 hwa HW HG
        refine (kO _).mono ?_
        rintro ee w3 ⟨rfl, b3⟩
        have HY3 : Hid (Blk w3 wr.heap.size [.int .i64 h, .int .i64 r, .int .i64 s, .string i', .int .i64 v, .string g, .int .i64 h', .int .i64 r', .int .i64 s', .string j', .int .i64 v', .string g'] 34) := HY.out.below b3 HY.out.lt
        have HW3 : Hid (OwnE w3 B (.slice (some ⟨q, 0, none⟩) G.length cap) G) := own_hold HW2.out b3
        have HG3 : Hid (w.grownBy w3 (some q)) := gr_bel HG2.out b3
        clear HY HW2 HG2 b3 kO
        cases t
        · have y0 := HY3.out.cell 0 rfl
          have y1 := HY3.out.cell 1 rfl
          have y2 := HY3.out.cell 2 rfl
          have y3 := HY3.out.cell 3 rfl
          have y4 := HY3.out.cell 4 rfl
          have y5 := HY3.out.cell 5 rfl
          have y6 := HY3.out.cell 6 rfl
          have y7 := HY3.out.cell 7 rfl
          have y8 := HY3.out.cell 8 rfl
          have y9 := HY3.out.cell 9 rfl
          have y10 := HY3.out.cell 10 rfl
          have y11 := HY3.out.cell 11 rfl
          have pc : ∀ c, c < 12 → (w3.cell? ⟨q, i * 12 + c, none⟩).isSome = true := fun c hc => by
            rw [HW3.out.at i hiG c hc]
            have : c < (entL G[i]).length := hc
            rw [List.getElem?_eq_getElem this]; rfl
          obtain ⟨p0, hp0⟩ := Option.isSome_iff_exists.1 (pc 0 (by omega))
          obtain ⟨p1, hp1⟩ := Option.isSome_iff_exists.1 (pc 1 (by omega))
          obtain ⟨p2, hp2⟩ := Option.isSome_iff_exists.1 (pc 2 (by omega))
          obtain ⟨p3, hp3⟩ := Option.isSome_iff_exists.1 (pc 3 (by omega))
          obtain ⟨p4, hp4⟩ := Option.isSome_iff_exists.1 (pc 4 (by omega))
          obtain ⟨p5, hp5⟩ := Option.isSome_iff_exists.1 (pc 5 (by omega))
          obtain ⟨p6, hp6⟩ := Option.isSome_iff_exists.1 (pc 6 (by omega))
          obtain ⟨p7, hp7⟩ := Option.isSome_iff_exists.1 (pc 7 (by omega))
          obtain ⟨p8, hp8⟩ := Option.isSome_iff_exists.1 (pc 8 (by omega))
          obtain ⟨p9, hp9⟩ := Option.isSome_iff_exists.1 (pc 9 (by omega))
          obtain ⟨p10, hp10⟩ := Option.isSome_iff_exists.1 (pc 10 (by omega))
          obtain ⟨p11, hp11⟩ := Option.isSome_iff_exists.1 (pc 11 (by omega))
          have hq0 : w3.cell? ⟨q, i * 12, none⟩ = some p0 := hp0
          have hq1 : ((w3.setCell ⟨q, i * 12, none⟩ (.int .i64 h))).cell? ⟨q, i * 12 + 1, none⟩ = some p1 := by rw [cell_off _ _ _ _ _ (by omega), hp1]
          have hq2 : (((w3.setCell ⟨q, i * 12, none⟩ (.int .i64 h)).setCell ⟨q, i * 12 + 1, none⟩ (.int .i64 r))).cell? ⟨q, i * 12 + 2, none⟩ = some p2 := by rw [cell_off _ _ _ _ _ (by omega), cell_off _ _ _ _ _ (by omega), hp2]
          have hq3 : ((((w3.setCell ⟨q, i * 12, none⟩ (.int .i64 h)).setCell ⟨q, i * 12 + 1, none⟩ (.int .i64 r)).setCell ⟨q, i * 12 + 2, none⟩ (.int .i64 s))).cell? ⟨q, i * 12 + 3, none⟩ = some p3 := by rw [cell_off _ _ _ _ _ (by omega), cell_off _ _ _ _ _ (by omega), cell_off _ _ _ _ _ (by omega), hp3]
          have hq4 : (((((w3.setCell ⟨q, i * 12, none⟩ (.int .i64 h)).setCell ⟨q, i * 12 + 1, none⟩ (.int .i64 r)).setCell ⟨q, i * 12 + 2, none⟩ (.int .i64 s)).setCell ⟨q, i * 12 + 3, none⟩ (.string i'))).cell? ⟨q, i * 12 + 4, none⟩ = some p4 := by rw [cell_off _ _ _ _ _ (by omega), cell_off _ _ _ _ _ (by omega), cell_off _ _ _ _ _ (by omega), cell_off _ _ _ _ _ (by omega), hp4]
          have hq5 : ((((((w3.setCell ⟨q, i * 12, none⟩ (.int .i64 h)).setCell ⟨q, i * 12 + 1, none⟩ (.int .i64 r)).setCell ⟨q, i * 12 + 2, none⟩ (.int .i64 s)).setCell ⟨q, i * 12 + 3, none⟩ (.string i')).setCell ⟨q, i * 12 + 4, none⟩ (.int .i64 v))).cell? ⟨q, i * 12 + 5, none⟩ = some p5 := by rw [cell_off _ _ _ _ _ (by omega), cell_off _ _ _ _ _ (by omega), cell_off _ _ _ _ _ (by omega), cell_off _ _ _ _ _ (by omega), cell_off _ _ _ _ _ (by omega), hp5]
          have hq6 : (((((((w3.setCell ⟨q, i * 12, none⟩ (.int .i64 h)).setCell ⟨q, i * 12 + 1, none⟩ (.int .i64 r)).setCell ⟨q, i * 12 + 2, none⟩ (.int .i64 s)).setCell ⟨q, i * 12 + 3, none⟩ (.string i')).setCell ⟨q, i * 12 + 4, none⟩ (.int .i64 v)).setCell ⟨q, i * 12 + 5, none⟩ (.string g))).cell? ⟨q, i * 12 + 6, none⟩ = some p6 := by rw [cell_off _ _ _ _ _ (by omega), cell_off _ _ _ _ _ (by omega), cell_off _ _ _ _ _ (by omega), cell_off _ _ _ _ _ (by omega), cell_off _ _ _ _ _ (by omega), cell_off _ _ _ _ _ (by omega), hp6]
          have hq7 : ((((((((w3.setCell ⟨q, i * 12, none⟩ (.int .i64 h)).setCell ⟨q, i * 12 + 1, none⟩ (.int .i64 r)).setCell ⟨q, i * 12 + 2, none⟩ (.int .i64 s)).setCell ⟨q, i * 12 + 3, none⟩ (.string i')).setCell ⟨q, i * 12 + 4, none⟩ (.int .i64 v)).setCell ⟨q, i * 12 + 5, none⟩ (.string g)).setCell ⟨q, i * 12 + 6, none⟩ (.int .i64 h'))).cell? ⟨q, i * 12 + 7, none⟩ = some p7 := by rw [cell_off _ _ _ _ _ (by omega), cell_off _ _ _ _ _ (by omega), cell_off _ _ _ _ _ (by omega), cell_off _ _ _ _ _ (by omega), cell_off _ _ _ _ _ (by omega), cell_off _ _ _ _ _ (by omega), cell_off _ _ _ _ _ (by omega), hp7]
          have hq8 : (((((((((w3.setCell ⟨q, i * 12, none⟩ (.int .i64 h)).setCell ⟨q, i * 12 + 1, none⟩ (.int .i64 r)).setCell ⟨q, i * 12 + 2, none⟩ (.int .i64 s)).setCell ⟨q, i * 12 + 3, none⟩ (.string i')).setCell ⟨q, i * 12 + 4, none⟩ (.int .i64 v)).setCell ⟨q, i * 12 + 5, none⟩ (.string g)).setCell ⟨q, i * 12 + 6, none⟩ (.int .i64 h')).setCell ⟨q, i * 12 + 7, none⟩ (.int .i64 r'))).cell? ⟨q, i * 12 + 8, none⟩ = some p8 := by rw [cell_off _ _ _ _ _ (by omega), cell_off _ _ _ _ _ (by omega), cell_off _ _ _ _ _ (by omega), cell_off _ _ _ _ _ (by omega), cell_off _ _ _ _ _ (by omega), cell_off _ _ _ _ _ (by omega), cell_off _ _ _ _ _ (by omega), cell_off _ _ _ _ _ (by omega), hp8]
          have hq9 : ((((((((((w3.setCell ⟨q, i * 12, none⟩ (.int .i64 h)).setCell ⟨q, i * 12 + 1, none⟩ (.int .i64 r)).setCell ⟨q, i * 12 + 2, none⟩ (.int .i64 s)).setCell ⟨q, i * 12 + 3, none⟩ (.string i')).setCell ⟨q, i * 12 + 4, none⟩ (.int .i64 v)).setCell ⟨q, i * 12 + 5, none⟩ (.string g)).setCell ⟨q, i * 12 + 6, none⟩ (.int .i64 h')).setCell ⟨q, i * 12 + 7, none⟩ (.int .i64 r')).setCell ⟨q, i * 12 + 8, none⟩ (.int .i64 s'))).cell? ⟨q, i * 12 + 9, none⟩ = some p9 := by rw [cell_off _ _ _ _ _ (by omega), cell_off _ _ _ _ _ (by omega), cell_off _ _ _ _ _ (by omega), cell_off _ _ _ _ _ (by omega), cell_off _ _ _ _ _ (by omega), cell_off _ _ _ _ _ (by omega), cell_off _ _ _ _ _ (by omega), cell_off _ _ _ _ _ (by omega), cell_off _ _ _ _ _ (by omega), hp9]
          have hq10 : (((((((((((w3.setCell ⟨q, i * 12, none⟩ (.int .i64 h)).setCell ⟨q, i * 12 + 1, none⟩ (.int .i64 r)).setCell ⟨q, i * 12 + 2, none⟩ (.int .i64 s)).setCell ⟨q, i * 12 + 3, none⟩ (.string i')).setCell ⟨q, i * 12 + 4, none⟩ (.int .i64 v)).setCell ⟨q, i * 12 + 5, none⟩ (.string g)).setCell ⟨q, i * 12 + 6, none⟩ (.int .i64 h')).setCell ⟨q, i * 12 + 7, none⟩ (.int .i64 r')).setCell ⟨q, i * 12 + 8, none⟩ (.int .i64 s')).setCell ⟨q, i * 12 + 9, none⟩ (.string j'))).cell? ⟨q, i * 12 + 10, none⟩ = some p10 := by rw [cell_off _ _ _ _ _ (by omega), cell_off _ _ _ _ _ (by omega), cell_off _ _ _ _ _ (by omega), cell_off _ _ _ _ _ (by omega), cell_off _ _ _ _ _ (by omega), cell_off _ _ _ _ _ (by omega), cell_off _ _ _ _ _ (by omega), cell_off _ _ _ _ _ (by omega), cell_off _ _ _ _ _ (by omega), cell_off _ _ _ _ _ (by omega), hp10]
          have hq11 : ((((((((((((w3.setCell ⟨q, i * 12, none⟩ (.int .i64 h)).setCell ⟨q, i * 12 + 1, none⟩ (.int .i64 r)).setCell ⟨q, i * 12 + 2, none⟩ (.int .i64 s)).setCell ⟨q, i * 12 + 3, none⟩ (.string i')).setCell ⟨q, i * 12 + 4, none⟩ (.int .i64 v)).setCell ⟨q, i * 12 + 5, none⟩ (.string g)).setCell ⟨q, i * 12 + 6, none⟩ (.int .i64 h')).setCell ⟨q, i * 12 + 7, none⟩ (.int .i64 r')).setCell ⟨q, i * 12 + 8, none⟩ (.int .i64 s')).setCell ⟨q, i * 12 + 9, none⟩ (.string j')).setCell ⟨q, i * 12 + 10, none⟩ (.int .i64 v'))).cell? ⟨q, i * 12 + 11, none⟩ = some p11 := by rw [cell_off _ _ _ _ _ (by omega), cell_off _ _ _ _ _ (by omega), cell_off _ _ _ _ _ (by omega), cell_off _ _ _ _ _ (by omega), cell_off _ _ _ _ _ (by omega), cell_off _ _ _ _ _ (by omega), cell_off _ _ _ _ _ (by omega), cell_off _ _ _ _ _ (by omega), cell_off _ _ _ _ _ (by omega), cell_off _ _ _ _ _ (by omega), cell_off _ _ _ _ _ (by omega), hp11]
          clear hp0 hp1 hp2 hp3 hp4 hp5 hp6 hp7 hp8 hp9 hp10 hp11
          clear pc
          have pf : ∀ j, w3.frozen? ⟨q, j, none⟩ = false := fun j => by
            have h0 : w3.ownsRow B 34 12 (.slice (some ⟨q, 0, none⟩) G.length cap) G.length (ecs G) := HW3.out
            exact h0.frozenAt j
          have HN1 : Hid ((G.set i (⟨⟨h, r, s, i', v⟩, g⟩, ob)).length = F.length) := by show _ = _; rw [List.length_set]; exact HL.out
          have HN2 : Hid ((G.set i (⟨⟨h, r, s, i', v⟩, g⟩, ob)).take (i + 1) = full (F.take (n + 1))) := by
            show _ = _
            rw [HFn.out, List.take_succ_eq_append_getElem (by simpa using hiG), List.take_set_of_le (Nat.le_refl _), List.getElem_set_self, HT.out]; rfl
          have HN3 : Hid ((G.set i (⟨⟨h, r, s, i', v⟩, g⟩, ob)).drop (n + 1) = F.drop (n + 1)) := by
            show _ = _
            rw [List.drop_set_of_lt (by omega)]; exact HD2.out
          have HN4 := HW3.out.put12 i hiG ⟨⟨h, r, s, i', v⟩, g⟩ ⟨⟨h', r', s', j', v'⟩, g'⟩ (⟨⟨h, r, s, i', v⟩, g⟩, ob) HEE2.out
          have HN5 := gr_trans HG3.out (gr_set12 w3 q i (.int .i64 h) (.int .i64 r) (.int .i64 s) (.string i') (.int .i64 v) (.string g) (.int .i64 h') (.int .i64 r') (.int .i64 s') (.string j') (.int .i64 v') (.string g'))
          go_wp2
          clear y0 y1 y2 y3 y4 y5 y6 y7 y8 y9 y10 y11 pf
          generalize (((((((((((((w3.setCell _ _).setCell _ _).setCell _ _).setCell _ _).setCell _ _).setCell _ _).setCell _ _).setCell _ _).setCell _ _).setCell _ _).setCell _ _).setCell _ _) : World) = w4 at *
          have HN4' : Hid (OwnE w4 B (.slice (some ⟨q, 0, none⟩) (G.set i (⟨⟨h, r, s, i', v⟩, g⟩, ob)).length cap) (G.set i (⟨⟨h, r, s, i', v⟩, g⟩, ob))) := by
            have h0 := HN4
            have hLs : (G.set i ((⟨⟨h, r, s, i', v⟩, g⟩, ob) : Ent)).length = G.length := List.length_set
            rw [← hLs] at h0
            exact h0
          have HN5' : Hid (w.grownBy w4 (some q)) := HN5
          clear HN4 HN5
          go_roundw
          case rel =>
            have R : ∃ (i0 n0 : Nat) (G0 : List Ent), Value.int .i64 ((i : Int) + 1) = .int .i64 i0 ∧ Value.int .i64 ((n : Int) + 1) = .int .i64 n0 ∧ i0 < n0 ∧ n0 ≤ F.length ∧ Hid (G0.length = F.length) ∧ Hid (G0.take i0 = full (F.take n0)) ∧ Hid (G0.drop n0 = F.drop n0) ∧ Hid (OwnE w4 B (.slice (some ⟨q, 0, none⟩) G0.length cap) G0) ∧ Hid (w.grownBy w4 (some q)) := ⟨i + 1, n + 1, _, by go_num, by go_num, by omega, by omega, HN1, HN2, HN3, HN4', HN5'⟩
            first | exact R | ((repeat apply Exists.intro); exact ⟨R, rfl⟩) | ((repeat apply Exists.intro); exact ⟨rfl, R⟩)
          case measure => simp [intOf]; omega
        · have HN2 : Hid (G.take i = full (F.take (n + 1))) := by show _ = _; rw [HFn.out, HT.out]; rfl
          go_wp2
          go_roundw
          case rel =>
            have R : ∃ (i0 n0 : Nat) (G0 : List Ent), Value.int .i64 (i : Int) = .int .i64 i0 ∧ Value.int .i64 ((n : Int) + 1) = .int .i64 n0 ∧ i0 < n0 ∧ n0 ≤ F.length ∧ Hid (G0.length = F.length) ∧ Hid (G0.take i0 = full (F.take n0)) ∧ Hid (G0.drop n0 = F.drop n0) ∧ Hid (OwnE w3 B (.slice (some ⟨q, 0, none⟩) G0.length cap) G0) ∧ Hid (w.grownBy w3 (some q)) := ⟨i, n + 1, G, rfl, by go_num, by omega, by omega, HL, HN2, HD2, HW3, HG3⟩
            first | exact R | ((repeat apply Exists.intro); exact ⟨R, rfl⟩) | ((repeat apply Exists.intro); exact ⟨rfl, R⟩)
          case measure => simp [intOf]; omega
      · have hltz : ¬ (n : Int) < (F.length : Int) := by omega
        have hiF : i < F.length := by omega
        have HFE : Hid (full (F.take n) = full F) := by show _ = _; rw [List.take_of_length_le (by omega)]
        obtain ⟨w9, hcl, hO9, hG9⟩ := run_clearE HW.out i (by rw [HL.out]; omega) 0
        rw [HL.out] at hcl
        have HO9 : Hid (OwnE w9 B (.slice (some ⟨q, 0, none⟩) i cap) (full F)) := by rw [← HFE.out, ← HT.out]; exact hO9
        have HG9 : Hid (w.grownBy w9 (some q)) := gr_trans HG.out hG9
        clear hO9 hG9 HW HG HT HD HL HFE
        go_wp2
        go_ret
        exact ⟨_, rfl, HO9.out, HG9.out⟩
end Go.Proofs.YtclajbadeclbdaaDoor
