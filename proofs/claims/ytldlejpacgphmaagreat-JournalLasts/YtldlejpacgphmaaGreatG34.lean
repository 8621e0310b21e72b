import Derived.Test.YtldlejpacgphmaaGreatG33
import Derived.Test.YtldlejpacgphmaaGreatG27
import Derived.Test.YtldlejpacgphmaaGreatG00
import Derived.Test.YtldlejpacgphmaaGreatG09
import Derived.Deep.QuietTactic
import Derived.BigQuiet
namespace Go.Proofs.YtldlejpacgphmaaGreat
open Go.RowKit
set_option maxRecDepth 100000 in
set_option maxHeartbeats 4000000 in
theorem left_any {Z : Nat → Prop} {w : World} {wb p c : Nat} {jv : Value} {g : Nat} {rm lasted : Int} {off trying : Bool} {tried tl td : Value} {hb hc nb fr bl : Nat} {ta : Option Addr} {tn tc : Nat} {d : Pd} (hW : Wb w wb p c jv g rm lasted off trying tried tl td) (hL : Lg w g (some ⟨hb, 0, none⟩) nb hc fr bl ta tn tc) (hD : Dk Z w p d.img d.puts d.fu d.off nb) (hf : d.Fits nb) (hpl : d.puts.length ≤ 1073741824) (mask : Int) :
  Calls Tryz.prog 12 #[.pointer (some ⟨wb, 0, none⟩), .int .u64 mask] w fun e w' => ∃ ib ic I, e = .returned (.tuple #[.slice (some ⟨ib, 0, none⟩) (512 * nb) ic, .bool true]) ∧ w.heap.size ≤ ib ∧ Own w' ib (512 * nb) ic I ∧ Pl.isB I ∧ (∀ x, d.poss x (imgB I x)) ∧ (d.puts = [] → I = d.img) ∧ Below w.heap.size w w' := by
 obtain ⟨L, hLe⟩ : ∃ L, L = 512 * nb := ⟨_, rfl⟩
 obtain ⟨PO, hPO⟩ : ∃ PO : Ending → World → Prop, PO = fun e w' => ∃ ib ic I, e = .returned (.tuple #[.slice (some ⟨ib, 0, none⟩) (512 * nb) ic, .bool true]) ∧ w.heap.size ≤ ib ∧ Own w' ib (512 * nb) ic I ∧ Pl.isB I ∧ (∀ x, d.poss x (imgB I x)) ∧ (d.puts = [] → I = d.img) ∧ Below w.heap.size w w' := ⟨_, rfl⟩
 rw [← hPO]
 have k0 : w.cell? ⟨wb, 0, none⟩ = some (.pointer (some ⟨p, 0, none⟩)) := hW.cell 0
 have k3 : w.cell? ⟨wb, 3, none⟩ = some (.pointer (some ⟨g, 0, none⟩)) := hW.cell 3
 have c0 := hL.c0
 rw [← hLe] at c0
 have hwl := hW.lt
 have hgl := hL.lt
 have HP := hid (Pending_any hD hpl)
 obtain ⟨n, hn⟩ : ∃ n, n = d.puts.length := ⟨_, rfl⟩
 have hlen : d.img.length = L := by rw [hf.1, hLe]
 have HCr0 : Hid (∀ (w1 w2 : World) (a : Option Addr) (m cp : Nat) (ks : List Int), Below w.heap.size w w1 → Below w1.heap.size w1 w2 → w2.ownsRow w1.heap.size 3 1 (.slice a m cp) m (ks.map (Value.int .i64)) → m ≤ n → GoodK n ks → Calls Tryz.prog 52 #[.pointer (some ⟨p, 0, none⟩), .slice a m cp] w2 fun e w3 => ∃ ib ic, e = .returned (.tuple #[.slice (some ⟨ib, 0, none⟩) L ic, .int .i64 0]) ∧ w3.cell? ⟨wb, 0, none⟩ = some (.pointer (some ⟨p, 0, none⟩)) ∧ (w3.cell? ⟨wb, 3, none⟩ = some (.pointer (some ⟨g, 0, none⟩)) ∧ w3.cell? ⟨g, 0, none⟩ = some (.slice (some ⟨hb, 0, none⟩) L hc) ∧ ∀ w4, w4.heap = w3.heap → Below w3.heap.size w3 w4 → PO (.returned (.tuple #[.slice (some ⟨ib, 0, none⟩) L ic, .bool true])) w4)) := fun w1 w2 a m cp ks b1 b2 q1 q2 q3 => by
  have s1 := b1.size
  have bb : Below w.heap.size w w2 := b1.trans (b2.mono s1)
  have hks : ∀ k ∈ ks, 0 ≤ k ∧ k < (d.puts.length : Int) := fun k hk => by
   obtain ⟨i, hi⟩ := List.mem_iff_getElem?.1 hk
   have hil := (List.getElem?_eq_some_iff.1 hi).1
   have e : ks.getD i 0 = k := by rw [List.getD_eq_getElem?_getD, hi]; rfl
   have h1 := good_lo q3 i hil
   have h2 := (q3 i hil).2
   rw [e] at h1 h2
   rw [← hn]
   exact ⟨h1, h2⟩
  have hpz : placesC d.puts.length ks = 0 := by unfold placesC; rw [← hn, if_pos q3]
  refine Calls.mono (Crash_any (hD.keep (fun k _ hk => bb.block k hk)) hpl a m cp ks (by omega) (rdi_of_owns q1)) ?_
  rintro e w3 ⟨b3, hcase⟩
  rcases hcase with ⟨h1, _⟩ | ⟨_, ib, ic, rfl, hib, hown, hisb⟩
  ·exact absurd hpz h1
  ·have s2 := bb.size
   have b4 : Below w.heap.size w w3 := bb.trans (b3.mono s2)
   refine ⟨ib, ic, by rw [hlen], (b4.cell (p := ⟨wb, 0, none⟩) hwl).trans k0, (b4.cell (p := ⟨wb, 3, none⟩) hwl).trans k3, (b4.cell (p := ⟨g, 0, none⟩) hgl).trans c0, fun w4 he b5 => ?_⟩
   rw [hPO]
   refine ⟨ib, ic, crashZ d.img d.puts ks, by rw [← hLe], by omega, ?_, hisb, fun x => (Pd.poss_crash hf ks hks x).1, fun hp0 => ?_, b4.trans (b5.mono b4.size)⟩
   ·rw [← hf.1]
    exact hown.keep (by rw [he])
   ·have hk0 : ks = [] := by
     rcases ks with _ | ⟨k, ks⟩
     ·rfl
     ·have := hks k (by simp)
      rw [hp0] at this
      simp at this
      omega
    rw [hk0]
    rfl
 have HK0 := hid (fun w1 => kept_any mask n (by omega) w1)
 have HNm0 := hid (num_any 0)
 rw [← hn] at HP
 have hn2 : n ≤ 1073741824 := by omega
 clear hW hL hD hf hpl hn hlen hPO hLe
 go_enter Tryz.func12, Tryz.ntmps12
 go_wp2_with fail
 refine Calls.mono HP.out ?_
 rintro e w1 ⟨g1, rfl, hg1, _, b1⟩
 have HNm1 := hid (HNm0.out w1)
 have m0 := (b1.cell (p := ⟨wb, 0, none⟩) hwl).trans k0
 have hs1 := b1.size
 have hwl1 : wb < w1.heap.size := by omega
 have HK := hid (HK0.out w1.drew)
 have HCr : Hid (∀ (w2 : World) (a : Option Addr) (m cp : Nat) (ks : List Int), Below w1.heap.size w1.drew w2 → w2.ownsRow w1.heap.size 3 1 (.slice a m cp) m (ks.map (Value.int .i64)) → m ≤ n → GoodK n ks → _) := fun w2 a m cp ks b2 => HCr0.out w1.drew w2 a m cp ks b1.drew b2
 clear HP HK0 HCr0 b1 k0 k3 c0
 go_wp2_with fail
 refine Calls.mono HNm1.out ?_
 rintro e w9 ⟨rfl, hw9⟩
 rw [hw9]
 clear hw9 HNm1
 go_wp2_with fail
 refine wp_region_held_drew (S := fun w' => w'.cell? ⟨wb, 0, none⟩ = some (.pointer (some ⟨p, 0, none⟩))) (by kernel_rfl) m0 (fun hSS => ?_)
 apply tk 0 (some 22) (.move (.tmp 0)) 27 none rfl (by kernel_rfl) (fun _ _ _ h => h) (by rfl) hSS
 ·(intro w9 hSw; (try dsimp only at hSw); (try go_split_ands); first | (go_simp; done) | (go_simp; with_reducible rfl))
 apply tk 1 (some 23) (.nilCheck (.tmp 22)) 0 none rfl (by kernel_rfl) (fun _ _ _ h => h) (by rfl) hSS
 ·(intro w9 hSw; (try dsimp only at hSw); (try go_split_ands); first | (go_simp; done) | (go_simp; with_reducible rfl))
 apply tk 2 (some 24) (.fieldAddr 45 (.tmp 23) 0) 0 none rfl (by kernel_rfl) (fun _ _ _ h => h) (by rfl) hSS
 ·(intro w9 hSw; (try dsimp only at hSw); (try go_split_ands); first | (go_simp; done) | (go_simp; with_reducible rfl))
 apply tk 3 (some 25) (.load 37 (.tmp 24)) 37 none rfl (by kernel_rfl) (fun _ _ _ h => h) (by rfl) hSS
 ·(intro w9 hSw; (try dsimp only at hSw); (try go_split_ands); first | (go_simp; done) | (go_simp; with_reducible rfl))
 try simp only [Act.put, List.setIfInBounds_toArray, List.set_cons_zero, List.set_cons_succ]
 apply tk 4 (some 26) (.move (.tmp 1)) 31 none rfl (by kernel_rfl) (fun _ _ _ h => h) (by rfl) hSS
 ·(intro w9 hSw; (try dsimp only at hSw); (try go_split_ands); first | (go_simp; done) | (go_simp; with_reducible rfl))
 apply tk 5 (some 27) (.move (.tmp 6)) 94 none rfl (by kernel_rfl) (fun _ _ _ h => h) (by rfl) hSS
 ·(intro w9 hSw; (try dsimp only at hSw); (try go_split_ands); first | (go_simp; done) | (go_simp; with_reducible rfl))
 apply tk 6 (some 28) (.call { callee := .builtin .len, args := #[.tmp 27], argTypes := #[94] }) 3 none rfl (by kernel_rfl) (fun _ _ _ h => h) (by rfl) hSS
 ·(intro w9 hSw; (try dsimp only at hSw); (try go_split_ands); first | (go_simp; done) | (go_simp; with_reducible rfl))
 try simp only [Act.put, List.setIfInBounds_toArray, List.set_cons_zero, List.set_cons_succ]
 refine wpAnyH_ready (rs := [7]) (by kernel_rfl) (by simp) (AllReadyH.cons (o := ({ dst := some 29, op := Op.call { callee := Callee.value (Operand.func 53), args := #[Operand.tmp 26, Operand.tmp 28], argTypes := #[31, 3] }, type := 94, pos := _, after := _, guard := none } : Oper)) rfl (fun K9 hK9 => ?_) AllReadyH.nil)
 go_simp
 go_at_call 53
 refine Calls.mono HK.out ?_
 rintro e w2 ⟨a2, m2, cp2, ks, rfl, q1, q2, q3, b2⟩
 have HC2 := hid (HCr.out w2 a2 m2 cp2 ks b2 q1 q2 q3)
 have n0 := (b2.cell (p := ⟨wb, 0, none⟩) hwl1).trans m0
 clear HK HCr q1 q2 q3 b2
 refine hK9.out _ _ n0 (fun hSS => ?_)
 clear hK9 K9
 try simp only [Act.put, List.setIfInBounds_toArray, List.set_cons_zero, List.set_cons_succ]
 refine wpAnyH_ready (rs := [8]) (by kernel_rfl) (by simp) (AllReadyH.cons (o := ({ dst := some 30, op := Op.call { callee := Callee.value (Operand.func 52), args := #[Operand.tmp 25, Operand.tmp 29], argTypes := #[37, 94] }, type := 72, pos := _, after := _, guard := none } : Oper)) rfl (fun K9 hK9 => ?_) AllReadyH.nil)
 go_simp
 go_at_call 52
 refine Calls.mono HC2.out ?_
 rintro e w3 ⟨ib, ic, rfl, r0, r1⟩
 have HR3 := hid r1
 clear r1 HC2
 refine hK9.out _ _ r0 (fun hSS => ?_)
 clear hK9 K9
 try simp only [Act.put, List.setIfInBounds_toArray, List.set_cons_zero, List.set_cons_succ]
 apply tk 9 (some 21) (.move (.tmp 30)) 72 none rfl (by kernel_rfl) (fun _ _ _ h => h) (by rfl) hSS
 ·(intro w9 hSw; (try dsimp only at hSw); (try go_split_ands); first | (go_simp; done) | (go_simp; with_reducible rfl))
 apply tk 10 (some 31) (.extract (.tmp 21) 0) 22 none rfl (by kernel_rfl) (fun _ _ _ h => h) (by rfl) hSS
 ·(intro w9 hSw; (try dsimp only at hSw); (try go_split_ands); first | (go_simp; done) | (go_simp; with_reducible rfl))
 try simp only [Act.put, List.setIfInBounds_toArray, List.set_cons_zero, List.set_cons_succ]
 apply tk 11 (some 32) (.extract (.tmp 21) 1) 55 none rfl (by kernel_rfl) (fun _ _ _ h => h) (by rfl) hSS
 ·(intro w9 hSw; (try dsimp only at hSw); (try go_split_ands); first | (go_simp; done) | (go_simp; with_reducible rfl))
 apply tk 12 (some 8) (.assign (.tmp 31)) 22 none rfl (by kernel_rfl) (fun _ _ _ h => h) (by rfl) hSS
 ·(intro w9 hSw; (try dsimp only at hSw); (try go_split_ands); first | (go_simp; done) | (go_simp; with_reducible rfl))
 apply tk 13 (some 9) (.assign (.tmp 32)) 55 none rfl (by kernel_rfl) (fun _ _ _ h => h) (by rfl) hSS
 ·(intro w9 hSw; (try dsimp only at hSw); (try go_split_ands); first | (go_simp; done) | (go_simp; with_reducible rfl))
 try simp only [Act.put, List.setIfInBounds_toArray, List.set_cons_zero, List.set_cons_succ]
 refine wpAnyH_done (by kernel_rfl) ?_ _
 obtain ⟨s3, s0, HE⟩ := HR3.out
 have HEh := hid HE
 have HNm := hid (HNm0.out w3.drew)
 have FIN : Hid (PO (.returned (.tuple #[.slice (some ⟨ib, 0, none⟩) L ic, .bool true])) w3.drew) := HE w3.drew rfl (Below.refl _ _).drew
 clear HE HR3 r0 n0 m0 hSS HNm0 HEh
 go_wp2_with fail
 refine wp_region_held_drew (S := fun w' => w'.cell? ⟨wb, 3, none⟩ = some (.pointer (some ⟨g, 0, none⟩)) ∧ w'.cell? ⟨g, 0, none⟩ = some (.slice (some ⟨hb, 0, none⟩) L hc)) (by kernel_rfl) ⟨s3, s0⟩ (fun hSS => ?_)
 apply tk 0 (some 33) (.move (.tmp 8)) 22 none rfl (by kernel_rfl) (fun _ _ _ h => h) (by rfl) hSS
 ·(intro w9 hSw; (try dsimp only at hSw); (try go_split_ands); first | (go_simp; done) | (go_simp; with_reducible rfl))
 apply tk 1 (some 34) (.move (.tmp 9)) 55 none rfl (by kernel_rfl) (fun _ _ _ h => h) (by rfl) hSS
 ·(intro w9 hSw; (try dsimp only at hSw); (try go_split_ands); first | (go_simp; done) | (go_simp; with_reducible rfl))
 try simp only [Act.put, List.setIfInBounds_toArray, List.set_cons_zero, List.set_cons_succ]
 refine wpAnyH_ready (rs := [2]) (by kernel_rfl) (by simp) (AllReadyH.cons (o := ({ dst := some 35, op := Op.call { callee := Callee.value (Operand.func 20), args := #[Operand.tmp 34], argTypes := #[55] }, type := 3, pos := _, after := _, guard := none } : Oper)) rfl (fun K9 hK9 => ?_) AllReadyH.nil)
 go_simp
 go_at_call 20
 refine Calls.mono HNm.out ?_
 rintro e w9 ⟨rfl, hw9⟩
 rw [hw9]
 clear hw9 HNm
 refine hK9.out _ _ hSS (fun hSS => ?_)
 clear hK9 K9
 try simp only [Act.put, List.setIfInBounds_toArray, List.set_cons_zero, List.set_cons_succ]
 apply tk 3 (some 36) (.binOp .eql 3 (.tmp 35) (.const (.int .i64 0)) 3) 4 none rfl (by kernel_rfl) (fun _ _ _ h => h) (by rfl) hSS
 ·(intro w9 hSw; (try dsimp only at hSw); (try go_split_ands); first | (go_simp; done) | (go_simp; with_reducible rfl))
 try simp only [Act.put, List.setIfInBounds_toArray, List.set_cons_zero, List.set_cons_succ]
 apply tk 4 (some 37) (.move (.tmp 36)) 4 none rfl (by kernel_rfl) (fun _ _ _ h => h) (by rfl) hSS
 ·(intro w9 hSw; (try dsimp only at hSw); (try go_split_ands); first | (go_simp; done) | (go_simp; with_reducible rfl))
 apply tk 5 (some 38) (.move (.tmp 8)) 22 (some (4, true)) rfl (by kernel_rfl) (fun _ _ _ h => h) (by rfl) hSS
 ·(intro w9 hSw; (try dsimp only at hSw); (try go_split_ands); first | (go_simp; done) | (go_simp; with_reducible rfl))
 apply tk 6 (some 39) (.call { callee := .builtin .len, args := #[.tmp 38], argTypes := #[22] }) 3 (some (4, true)) rfl (by kernel_rfl) (fun _ _ _ h => h) (by rfl) hSS
 ·(intro w9 hSw; (try dsimp only at hSw); (try go_split_ands); first | (go_simp; done) | (go_simp; with_reducible rfl))
 apply tk 7 (some 40) (.move (.tmp 0)) 27 (some (4, true)) rfl (by kernel_rfl) (fun _ _ _ h => h) (by rfl) hSS
 ·(intro w9 hSw; (try dsimp only at hSw); (try go_split_ands); first | (go_simp; done) | (go_simp; with_reducible rfl))
 try simp only [Act.put, List.setIfInBounds_toArray, List.set_cons_zero, List.set_cons_succ]
 apply tk 8 (some 41) (.nilCheck (.tmp 40)) 0 (some (4, true)) rfl (by kernel_rfl) (fun _ _ _ h => h) (by rfl) hSS
 ·(intro w9 hSw; (try dsimp only at hSw); (try go_split_ands); first | (go_simp; done) | (go_simp; with_reducible rfl))
 apply tk 9 (some 42) (.fieldAddr 45 (.tmp 41) 3) 0 (some (4, true)) rfl (by kernel_rfl) (fun _ _ _ h => h) (by rfl) hSS
 ·(intro w9 hSw; (try dsimp only at hSw); (try go_split_ands); first | (go_simp; done) | (go_simp; with_reducible rfl))
 apply tk 10 (some 43) (.load 40 (.tmp 42)) 40 (some (4, true)) rfl (by kernel_rfl) (fun _ _ _ h => h) (by rfl) hSS
 ·(intro w9 hSw; (try dsimp only at hSw); (try go_split_ands); first | (go_simp; done) | (go_simp; with_reducible rfl))
 apply tk 11 (some 44) (.nilCheck (.tmp 43)) 0 (some (4, true)) rfl (by kernel_rfl) (fun _ _ _ h => h) (by rfl) hSS
 ·(intro w9 hSw; (try dsimp only at hSw); (try go_split_ands); first | (go_simp; done) | (go_simp; with_reducible rfl))
 try simp only [Act.put, List.setIfInBounds_toArray, List.set_cons_zero, List.set_cons_succ]
 apply tk 12 (some 45) (.fieldAddr 48 (.tmp 44) 0) 0 (some (4, true)) rfl (by kernel_rfl) (fun _ _ _ h => h) (by rfl) hSS
 ·(intro w9 hSw; (try dsimp only at hSw); (try go_split_ands); first | (go_simp; done) | (go_simp; with_reducible rfl))
 apply tk 13 (some 46) (.load 22 (.tmp 45)) 22 (some (4, true)) rfl (by kernel_rfl) (fun _ _ _ h => h) (by rfl) hSS
 ·(intro w9 hSw; (try dsimp only at hSw); (try go_split_ands); first | (go_simp; done) | (go_simp; with_reducible rfl))
 apply tk 14 (some 47) (.call { callee := .builtin .len, args := #[.tmp 46], argTypes := #[22] }) 3 (some (4, true)) rfl (by kernel_rfl) (fun _ _ _ h => h) (by rfl) hSS
 ·(intro w9 hSw; (try dsimp only at hSw); (try go_split_ands); first | (go_simp; done) | (go_simp; with_reducible rfl))
 apply tk 15 (some 48) (.binOp .eql 3 (.tmp 39) (.tmp 47) 3) 4 (some (4, true)) rfl (by kernel_rfl) (fun _ _ _ h => h) (by rfl) hSS
 ·(intro w9 hSw; (try dsimp only at hSw); (try go_split_ands); first | (go_simp; done) | (go_simp; with_reducible rfl))
 try simp only [Act.put, List.setIfInBounds_toArray, List.set_cons_zero, List.set_cons_succ]
 apply tk 16 (some 49) (.pick (.tmp 37) (.tmp 48) (.const (.bool false))) 4 none rfl (by kernel_rfl) (fun _ _ _ h => h) (by rfl) hSS
 ·(intro w9 hSw; (try dsimp only at hSw); (try go_split_ands); first | (go_simp; done) | (go_simp; with_reducible rfl))
 apply tk 17 (some 4) (.assign (.tmp 33)) 22 none rfl (by kernel_rfl) (fun _ _ _ h => h) (by rfl) hSS
 ·(intro w9 hSw; (try dsimp only at hSw); (try go_split_ands); first | (go_simp; done) | (go_simp; with_reducible rfl))
 apply tk 18 (some 5) (.assign (.tmp 49)) 4 none rfl (by kernel_rfl) (fun _ _ _ h => h) (by rfl) hSS
 ·(intro w9 hSw; (try dsimp only at hSw); (try go_split_ands); first | (go_simp; done) | (go_simp; with_reducible rfl))
 try simp only [Act.put, List.setIfInBounds_toArray, List.set_cons_zero, List.set_cons_succ]
 refine wpAnyH_done (by kernel_rfl) ?_ _
 go_wp2
 exact FIN.out
end Go.Proofs.YtldlejpacgphmaaGreat
namespace Go.Proofs.YtldlejpacgphmaaGreat
open Go.RowKit
theorem idx117 (a b c : Int) (w : World) (i : Int) (v : Int) (hi : 0 ≤ i) (hi3 : i < 3) (h : #[Value.int .u64 a, .int .u64 b, .int .u64 c][i.toNat]? = some (.int .u64 v)) : (Instr.index 117 (.agg #[.int .u64 a, .int .u64 b, .int .u64 c]) (.int .i64 i)).run Tryz.prog w = .ok (.int .u64 v) w := by
 have hcase : i = 0 ∨ i = 1 ∨ i = 2 := by omega
 unfold Instr.index
 rcases hcase with rfl | rfl | rfl
 ·simp at h
  subst h
  simp [run_underlying Tryz.underlying117, asIntOf, go_sem, part]
 ·simp at h
  subst h
  simp [run_underlying Tryz.underlying117, asIntOf, go_sem, part]
 ·simp at h
  subst h
  simp [run_underlying Tryz.underlying117, asIntOf, go_sem, part]
set_option maxRecDepth 100000 in
set_option maxHeartbeats 4000000 in
theorem probes_any {X Z : Nat → Prop} {w : World} {wb p c : Nat} {jv : Value} {g room : Nat} {lasted : Int} {off : Bool} {tried tl td : Value} {hb hc nb fr bl : Nat} {H : List Int} {ta : Option Addr} {tc : Nat} {vs : List Value} {Us : List (List Pm)} {d : Pd} {lo : Nat} (hW : Wb w wb p c jv g (room : Int) lasted off false tried tl td) (hL : LgW X w g hb hc nb fr bl H ta tc vs Us) (r1 : 1 ≤ room) (r2 : room ≤ 4096) (hD : Dk Z w p d.img d.puts d.fu d.off nb) (hf : d.Fits nb)
  (hC : Cut d nb fr bl lo (imgB H) (plainT Us)) (hla : lasted ≤ (lo : Int)) (hlo : 16 ≤ bl) (hfit : fr + bl ≤ nb) (hnb : nb ≤ 524288) (hUs : Us.length ≤ 1099511627776) (mask : Int) :
  Calls Tryz.prog 31 #[.pointer (some ⟨wb, 0, none⟩), .int .u64 mask] w fun e w' => e = .returned (.bool true) ∧ Below w.heap.size w w' := by
 have hpl : d.puts.length ≤ 1073741824 := by have := hC.pl; omega
 have HLe : Hid (∀ (w' : World) (m : Int), Below w.heap.size w w' → Calls Tryz.prog 12 #[.pointer (some ⟨wb, 0, none⟩), .int .u64 m] w' fun e w'' => ∃ ib ic, e = .returned (.tuple #[.slice (some ⟨ib, 0, none⟩) (512 * nb) ic, .bool true]) ∧ Calls Tryz.prog 13 #[.pointer (some ⟨wb, 0, none⟩), .slice (some ⟨ib, 0, none⟩) (512 * nb) ic] w'' fun e w3 => e = .returned (.bool true) ∧ Below w.heap.size w w3) := fun w' m hb' => by
  refine Calls.mono (left_any (hW.keep (hb'.block wb hW.lt)) (hL.lg.keep (hb'.block g hL.gl)) (hD.keep (fun k _ hk => hb'.block k hk)) hf hpl m) ?_
  rintro e w'' ⟨ib, ic, I, rfl, _, q2, q3, q4, _, q6⟩
  have bb : Below w.heap.size w w'' := hb'.trans (q6.mono hb'.size)
  refine ⟨ib, ic, rfl, Calls.mono (probe_any (hW.keep (bb.block wb hW.lt)) (hL.below bb X (fun _ _ q => q)) r1 r2 q2 q3 hC (fun x _ => q4 x) hla hlo hfit hnb hUs) ?_⟩
  rintro e w3 ⟨rfl, b3⟩
  exact ⟨rfl, bb.trans (b3.mono bb.size)⟩
 clear hW hL hD hf hC hla hpl hUs r1 r2
 obtain ⟨L, hLe⟩ : ∃ L, L = 512 * nb := ⟨_, rfl⟩
 rw [← hLe] at HLe
 clear hLe
 go_enter Tryz.func31, Tryz.ntmps31
 go_wp2_with fail
 go_loopw [5] (fun iv wr => ∃ i : Nat, i ≤ 3 ∧ iv = .int .i64 (i : Int) ∧ Below w.heap.size w wr) (fun iv _ => 3 - (intOf iv).toNat)
 case atStart => exact ⟨0, by omega, rfl, Below.refl _ _⟩
 case round =>
  obtain ⟨i, hi, rfl, hbt⟩ := hrel
  by_cases hi3 : i < 3
  ·have key : ∀ m : Int, Hid (Calls Tryz.prog 12 #[.pointer (some ⟨wb, 0, none⟩), .int .u64 m] wr fun e w'' => ∃ ib ic, e = .returned (.tuple #[.slice (some ⟨ib, 0, none⟩) L ic, .bool true]) ∧ Calls Tryz.prog 13 #[.pointer (some ⟨wb, 0, none⟩), .slice (some ⟨ib, 0, none⟩) L ic] w'' fun e w3 => e = .returned (.bool true) ∧ Below w.heap.size w w3) := fun m => HLe.out wr m hbt
   have hcases : i = 0 ∨ i = 1 ∨ i = 2 := by omega
   clear hbt HLe
   rcases hcases with rfl | rfl | rfl
   ·have HK := key 0
    have hix := idx117 0 18446744073709551615 mask wr 0 0 (by decide) (by decide) rfl
    clear key
    go_wp2_with fail
    refine Calls.mono HK.out ?_
    rintro e w2 ⟨ib, ic, rfl, HP⟩
    have HP2 := hid HP
    clear HP HK
    go_wp2_with fail
    refine Calls.mono HP2.out ?_
    rintro e w3 ⟨rfl, b3⟩
    have FIN := hid b3
    clear b3 HP2
    go_wp2
    refine ⟨⟨1, by omega, by go_num, FIN.out⟩, ?_⟩
    simp [intOf]
   ·have HK := key 18446744073709551615
    have hix := idx117 0 18446744073709551615 mask wr 1 18446744073709551615 (by decide) (by decide) rfl
    clear key
    go_wp2_with fail
    refine Calls.mono HK.out ?_
    rintro e w2 ⟨ib, ic, rfl, HP⟩
    have HP2 := hid HP
    clear HP HK
    go_wp2_with fail
    refine Calls.mono HP2.out ?_
    rintro e w3 ⟨rfl, b3⟩
    have FIN := hid b3
    clear b3 HP2
    go_wp2
    refine ⟨⟨2, by omega, by go_num, FIN.out⟩, ?_⟩
    simp [intOf]
   ·have HK := key mask
    have hix := idx117 0 18446744073709551615 mask wr 2 mask (by decide) (by decide) rfl
    clear key
    go_wp2_with fail
    refine Calls.mono HK.out ?_
    rintro e w2 ⟨ib, ic, rfl, HP⟩
    have HP2 := hid HP
    clear HP HK
    go_wp2_with fail
    refine Calls.mono HP2.out ?_
    rintro e w3 ⟨rfl, b3⟩
    have FIN := hid b3
    clear b3 HP2
    go_wp2
    refine ⟨⟨3, by omega, by go_num, FIN.out⟩, ?_⟩
    simp [intOf]
  ·have hie : i = 3 := by omega
   subst hie
   have FIN := hid hbt
   clear hbt HLe
   go_wp2
   go_ret
   exact ⟨rfl, FIN.out⟩
end Go.Proofs.YtldlejpacgphmaaGreat
namespace Go.Proofs.YtldlejpacgphmaaGreat
open Go.RowKit
/-! ### the lender -/
def Lnd (w : World) (L : Nat) (bv : Value) (N : Int) : Prop := w.heap[L]? = some (.cells #[bv, .int .i64 N] 160 (0, 0))
theorem Lnd.lt {w : World} {L : Nat} {bv : Value} {N : Int} (h : Lnd w L bv N) : L < w.heap.size := (Array.getElem?_eq_some_iff.1 h).1
theorem Lnd.buf {w : World} {L : Nat} {bv : Value} {N : Int} (h : Lnd w L bv N) : w.cell? ⟨L, 0, none⟩ = some bv := by unfold Lnd at h; simp [World.cell?, h]
theorem Lnd.num {w : World} {L : Nat} {bv : Value} {N : Int} (h : Lnd w L bv N) : w.cell? ⟨L, 1, none⟩ = some (.int .i64 N) := by unfold Lnd at h; simp [World.cell?, h]
theorem Lnd.frozen {w : World} {L : Nat} {bv : Value} {N : Int} (h : Lnd w L bv N) (t : Nat) : w.frozen? ⟨L, t, none⟩ = false := by unfold Lnd at h; simp [World.frozen?, h]
theorem Lnd.of_block {w w' : World} {L : Nat} {bv : Value} {N : Int} (h : Lnd w L bv N) (hw : w'.heap[L]? = w.heap[L]?) : Lnd w' L bv N := by unfold Lnd at *; rw [hw]; exact h
theorem Lnd.setOther {w : World} {L : Nat} {bv : Value} {N : Int} (h : Lnd w L bv N) {p : Addr} (hp : L ≠ p.block) (u : Value) : Lnd (w.setCell p u) L bv N := h.of_block (Below.heap_setCell _ _ _ _ hp)
theorem Lnd.alloc {w : World} {L : Nat} {bv : Value} {N : Int} (h : Lnd w L bv N) (o : Obj) : Lnd (w.alloc o) L bv N := h.of_block (Below.heap_alloc _ _ _ h.lt)
theorem Lnd.setBuf {w : World} {L : Nat} {bv : Value} {N : Int} (h : Lnd w L bv N) (u : Value) : Lnd (w.setCell ⟨L, 0, none⟩ u) L u N := by
 unfold Lnd at *
 simp only [World.setCell, Array.getElem?_modify]
 rw [h]
 simp
theorem Lnd.setNum {w : World} {L : Nat} {bv : Value} {N : Int} (h : Lnd w L bv N) (u : Int) : Lnd (w.setCell ⟨L, 1, none⟩ (.int .i64 u)) L bv u := by
 unfold Lnd at *
 simp only [World.setCell, Array.getElem?_modify]
 rw [h]
 simp
def mk (i : Nat) : Int := (203 - 5 * (i : Int)) % 256
def lent (zs : List Int) : List Int := zs ++ (List.range (zs.length + 70)).map fun i => mk (zs.length + i)
theorem length_lent (zs : List Int) : (lent zs).length = 2 * zs.length + 70 := by simp [lent]; omega
theorem lent_lo {zs : List Int} {k : Nat} (h : k < zs.length) : (lent zs).getD k 0 = zs.getD k 0 := by
 simp [lent, h, List.getElem?_append_left]
theorem lent_hi {zs : List Int} {k : Nat} (h : zs.length ≤ k) (h2 : k < 2 * zs.length + 70) : (lent zs).getD k 0 = mk k := by
 have h3 : k - zs.length < zs.length + 70 := by omega
 simp [lent, List.getElem?_append_right h, h3]
 congr 1
 omega
set_option maxHeartbeats 400000 in
theorem mark_any (p : Value) (i : Nat) (w : World) (h : i ≤ 1073741824) :
  Calls Tryz.prog 135 #[p, .int .i64 (i : Int)] w fun e w' => e = .returned (.int .u8 (mk i)) ∧ w' = w := by
 go_enter Tryz.func135, Tryz.ntmps135
 go_wp2
 go_ret
 exact ⟨rfl, rfl⟩
end Go.Proofs.YtldlejpacgphmaaGreat
namespace Go.Proofs.YtldlejpacgphmaaGreat
open Go.RowKit
theorem Lnd.but {X : Nat → Prop} {w w' : World} {L : Nat} {bv : Value} {N : Int} (h : Lnd w L bv N) (hb : But X w w') (hx : ¬ X L) : Lnd w' L bv N := h.of_block (hb.block L h.lt hx)
set_option maxRecDepth 100000 in
set_option maxHeartbeats 1000000 in
theorem Back_ok (L G M : Nat) (a : Option Addr) (n c : Nat) (ys zs : List Int) (w : World) (hn : n ≤ 16777216) (hB : Blk .u8 5 w G ys) (hyl : ys.length = M) (hyt : ys.take (2 * n + 70) = lent zs) (hL : Lnd w L (.slice (some ⟨G, 0, none⟩) M M) n) (hGL : L ≠ G) (hM : 2 * n + 70 ≤ M) (hM2 : M ≤ 1073741824)
  (hR : RdN (fun x => x = L ∨ x = G) w a n zs) :
  Calls Tryz.prog 117 #[.pointer (some ⟨L, 0, none⟩), .slice a n c] w fun e w' => ∃ ys', e = .returned (.bool true) ∧ Blk .u8 5 w' G ys' ∧ ys'.length = M ∧ Lnd w' L (.slice (some ⟨G, 0, none⟩) M M) n ∧ But (fun x => x = G) w w' := by
 have hzl := hR.1
 have hget : ∀ j, j < 2 * n + 70 → ys.getD j 0 = (lent zs).getD j 0 := by
  intro j hj
  rw [← hyt, List.getD_eq_getElem?_getD, List.getD_eq_getElem?_getD, List.getElem?_take_of_lt hj]
 have r1 : ∀ q, Rd w.heap.size (w.drewN q) (some ⟨G, 0, none⟩) n zs := fun q => ⟨hzl, hR.2.1, .inr ⟨G, 0, rfl, hB.lt, fun t ht => by
  have h := hB.cell t (by omega)
  rw [hget t (by omega), lent_lo (by omega)] at h
  rw [Nat.zero_add]
  exact h⟩⟩
 have e1 := fun q => conv_str (r1 q) M
 have e2 : ∀ q, (convert 22 9 (.slice a n c)).run Tryz.prog (w.drewN q) = .ok (.string (strOfNums zs)) (w.drewN q) := fun q => conv_str (hR.but ((But.refl _ w).drewN q)).rd c
 have hbuf := hL.buf
 have hnum := hL.num
 have hnM : (n : Int) ≤ (M : Int) := by omega
 have HR := hid hR
 have HG := hid hget
 clear hR hget r1
 generalize strOfNums zs = s at *
 go_enter Tryz.func117, Tryz.ntmps117
 go_wp2_with fail
 go_quiet (fail)
 go_wp2
 clear e1 e2 hbuf hnum
 go_loopw [5, 6] (fun ok i wt => ∃ j : Nat, n ≤ j ∧ j ≤ 2 * n + 70 ∧ i = .int .i64 (j : Int) ∧ ok = .bool true ∧ But (fun _ => False) w wt) (fun _ i _ => 2 * n + 70 - (intOf i).toNat)
 case atStart => exact ⟨n, Nat.le_refl _, by omega, rfl, by simp, (But.refl _ _).drewN _⟩
 case round =>
  obtain ⟨j, hj1, hj2, rfl, rfl, hbt⟩ := hrel
  have hL2 := hL.but hbt (fun h => h)
  have hnum := hL2.num
  have hbuf := hL2.buf
  by_cases hjn : j < 2 * n + 70
  ·have hcell := (hB.but hbt (fun h => h)).cell j (by omega)
   rw [HG.out j hjn, lent_hi (by omega) (by omega)] at hcell
   have hk2 : (j : Int) < (M : Int) := by omega
   go_wp2_with fail
   go_quiet ((go_at_call 135; exact Calls.quiet_of_same (mark_any _ _ _ (by omega))))
   go_wp2
   go_roundw
   case rel => exact ⟨j + 1, by omega, by omega, by go_num, by simp, hbt.drewN _⟩
   case measure => simp [intOf]; omega
  ·have HB := hid (hB.but hbt (fun h => h))
   have Hyl := hid hyl
   have HL := hid hL2
   have Hb := hid (hbt.mono (Y := fun x => x = G) (fun _ _ h => h.elim))
   clear hB hyl hL hL2 hbt
   go_wp2
   go_loopw [7] (fun i wt => ∃ (k : Nat) (ys' : List Int), k ≤ n ∧ i = .int .i64 (k : Int) ∧ Blk .u8 5 wt G ys' ∧ ys'.length = M ∧ Lnd wt L (.slice (some ⟨G, 0, none⟩) M M) n ∧ But (fun x => x = G) w wt) (fun i _ => n - (intOf i).toNat)
   case atStart => exact ⟨0, ys, Nat.zero_le _, rfl, HB.out, Hyl.out, HL.out, Hb.out⟩
   case round =>
    clear HB Hyl HL Hb hnum hbuf
    obtain ⟨k, ys', hk, rfl, hB, hyl, hL, hbt⟩ := hrel
    have hnum := hL.num
    have hbuf := hL.buf
    by_cases hkn : k < n
    ·have hcell := hB.cell k (by omega)
     have hfr := hB.frozen k
     have hk2 : (k : Int) < (M : Int) := by omega
     have HB := hid (hB.set k 120)
     have Hyl := hid hyl
     have HL := hid (hL.setOther (p := ⟨G, k, none⟩) (by exact hGL) (.int .u8 120))
     have Hb := hid (hbt.setCell (p := ⟨G, k, none⟩) rfl (.int .u8 120))
     clear hB hyl hL hbt
     go_wp2
     go_roundw
     case rel => exact ⟨k + 1, _, by omega, by go_num, HB.out, by simpa using Hyl.out, HL.out, Hb.out⟩
     case measure => simp [intOf]; omega
    ·have HB := hid hB
     have Hyl := hid hyl
     have HL := hid hL
     clear hB hyl hL
     go_wp2
     go_ret
     exact ⟨ys', rfl, HB.out, Hyl.out, HL.out, hbt⟩
end Go.Proofs.YtldlejpacgphmaaGreat
namespace Go.Proofs.YtldlejpacgphmaaGreat
open Go.RowKit
theorem run_copy_two (w : World) (ty : TypeId) (g dLen dCap : Nat) (a : Addr) (sLen sCap : Nat) (cur : Array Value) (t : TypeId) (cs : List Value)
  (hg : w.heap[g]? = some (.cells cur t (0, 0))) (hn : cs.length = Nat.min sLen dLen * 2)
  (hsrc : ∀ j v, cs[j]? = some v → w.cell? (a.add j) = some v) (hfit : cs.length ≤ cur.size) (h1 : ∀ v ∈ cs, v.oneCell' = true) :
  (Builtin.copy_ #[30, 30] ty #[.slice (some ⟨g, 0, none⟩) dLen dCap, .slice (some a) sLen sCap]).run Tryz.prog w =
   .ok (goInt (Nat.min sLen dLen)) (w.setRow g (cs ++ cur.toList.drop cs.length).toArray) := by
 obtain ⟨i68, hi68, hz68, hs68, hb68⟩ := info_parts info68
 have hl := run_loadCells_list (P := Tryz.prog) w a cs hsrc
 have hst := run_storeCells_at Tryz.prog g 0 t cs 0 cur w hg (by simpa using hfit) h1
 simp at hst
 simp [Builtin.copy_, run_underlying Tryz.underlying30, Builtin.lenOf, Builtin.firstCells, sizeOf, typeInfo, hi68, hs68, ← hn, hl, hst]
def LdA (w : World) (L : Nat) : Option Nat → Prop
 | none => Lnd w L (.slice none 0 0) 0
 | some G => ∃ M ys N, Blk .u8 5 w G ys ∧ ys.length = M ∧ Lnd w L (.slice (some ⟨G, 0, none⟩) M M) N ∧ M ≤ 1073741824
def LdL (w : World) (L G : Nat) (zs : List Int) : Prop := ∃ M ys, Blk .u8 5 w G ys ∧ ys.length = M ∧ ys.take (2 * zs.length + 70) = lent zs ∧ Lnd w L (.slice (some ⟨G, 0, none⟩) M M) (zs.length : Int) ∧ 2 * zs.length + 70 ≤ M ∧ M ≤ 1073741824
theorem LdL.a {w : World} {L G : Nat} {zs : List Int} (h : LdL w L G zs) : LdA w L (some G) := by
 obtain ⟨M, ys, h1, h2, _, h3, _, h4⟩ := h
 exact ⟨M, ys, _, h1, h2, h3, h4⟩
theorem LdA.lt {w : World} {L : Nat} {o : Option Nat} (h : LdA w L o) : L < w.heap.size ∧ ∀ G, o = some G → G < w.heap.size := by
 cases o with
 | none => exact ⟨Lnd.lt h, fun G e => by cases e⟩
 | some G =>
  obtain ⟨M, ys, N, h1, _, h3, _⟩ := h
  exact ⟨h3.lt, fun G' e => by cases e; exact h1.lt⟩
theorem LdA.keep {w w' : World} {L : Nat} {o : Option Nat} (h : LdA w L o) (hL : w'.heap[L]? = w.heap[L]?) (hG : ∀ G, o = some G → w'.heap[G]? = w.heap[G]?) : LdA w' L o := by
 cases o with
 | none => exact Lnd.of_block h hL
 | some G =>
  obtain ⟨M, ys, N, h1, h2, h3, h4⟩ := h
  exact ⟨M, ys, N, h1.of_block (hG G rfl), h2, h3.of_block hL, h4⟩
theorem LdL.keep {w w' : World} {L G : Nat} {zs : List Int} (h : LdL w L G zs) (hL : w'.heap[L]? = w.heap[L]?) (hG : w'.heap[G]? = w.heap[G]?) : LdL w' L G zs := by
 obtain ⟨M, ys, h1, h2, h3, h4, h5⟩ := h
 exact ⟨M, ys, h1.of_block hG, h2, h3, h4.of_block hL, h5⟩
abbrev Ln := Nat × Option Nat
def Ln.has (l : Ln) (k : Nat) : Prop := k = l.1 ∨ l.2 = some k
structure Tr (w : World) (td : Value) (Ls : List Ln) (Zs : List (List Int)) : Prop where
 row : w.ownsRow 0 158 1 td Ls.length (Ls.map fun l => Value.pointer (some ⟨l.1, 0, none⟩))
 all : ∀ (i : Nat) (l : Ln), Ls[i]? = some l → LdA w l.1 l.2
 lnt : ∀ (i : Nat) (zs : List Int), Zs[i]? = some zs → ∃ L G, Ls[i]? = some (L, some G) ∧ LdL w L G zs
 dj : ∀ (i j : Nat) (a b : Ln), Ls[i]? = some a → Ls[j]? = some b → i ≠ j → ∀ k, a.has k → ¬ b.has k
 ne : ∀ (i : Nat) (l : Ln), Ls[i]? = some l → l.2 ≠ some l.1
 nr : ∀ k, td.ownBlock = some k → ∀ (i : Nat) (l : Ln), Ls[i]? = some l → ¬ l.has k
def TrB (td : Value) (Ls : List Ln) (k : Nat) : Prop := td.ownBlock = some k ∨ ∃ l ∈ Ls, Ln.has l k
theorem Ln.has_lt {w : World} {l : Ln} (h : LdA w l.1 l.2) {k : Nat} (hk : l.has k) : k < w.heap.size := by
 rcases hk with hk | hk
 ·rw [hk]; exact h.lt.1
 ·exact h.lt.2 k hk
theorem Tr.keep {w w' : World} {td : Value} {Ls : List Ln} {Zs : List (List Int)} (h : Tr w td Ls Zs) (hk : ∀ k, TrB td Ls k → k < w.heap.size → w'.heap[k]? = w.heap[k]?) : Tr w' td Ls Zs where
 row := owns_keep h.row (fun k e => hk k (.inl e) (World.ownsRow.lt h.row k e).2)
 all := fun i l hi => (h.all i l hi).keep (hk _ (.inr ⟨l, List.mem_of_getElem? hi, .inl rfl⟩) (h.all i l hi).lt.1) (fun G e => hk _ (.inr ⟨l, List.mem_of_getElem? hi, .inr e⟩) ((h.all i l hi).lt.2 G e))
 lnt := fun i zs hi => by
  obtain ⟨L, G, q1, q2⟩ := h.lnt i zs hi
  have q3 := h.all i _ q1
  exact ⟨L, G, q1, q2.keep (hk _ (.inr ⟨_, List.mem_of_getElem? q1, .inl rfl⟩) q3.lt.1) (hk _ (.inr ⟨_, List.mem_of_getElem? q1, .inr rfl⟩) (q3.lt.2 G rfl))⟩
 dj := h.dj
 ne := h.ne
 nr := h.nr
theorem Tr.but {w w' : World} {td : Value} {Ls : List Ln} {Zs : List (List Int)} {Y : Nat → Prop} (h : Tr w td Ls Zs) (hb : But Y w w') (hy : ∀ k, k < w.heap.size → TrB td Ls k → ¬ Y k) : Tr w' td Ls Zs := h.keep (fun k q hk => hb.block k hk (hy k hk q))
theorem Tr.lt {w : World} {td : Value} {Ls : List Ln} {Zs : List (List Int)} (h : Tr w td Ls Zs) {k : Nat} (hk : TrB td Ls k) : k < w.heap.size := by
 rcases hk with hk | ⟨l, hl, hk⟩
 ·exact (World.ownsRow.lt h.row k hk).2
 ·obtain ⟨i, hi⟩ := List.mem_iff_getElem?.1 hl
  exact Ln.has_lt (h.all i l hi) hk
theorem Tr.nothing {w : World} {td : Value} {Ls : List Ln} {Zs : List (List Int)} (h : Tr w td Ls Zs) : Tr w td Ls [] := ⟨h.row, h.all, fun i zs hi => by simp at hi, h.dj, h.ne, h.nr⟩
end Go.Proofs.YtldlejpacgphmaaGreat
