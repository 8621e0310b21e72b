import Derived.Test.YtlefjidbpjkhlaaGreatN06
import Derived.Test.YtlefjidbpjkhlaaGreatN09
import Derived.Lib.SlBytesConst
import Derived.ArgAppend
import Derived.Deep.AppendLies
import Derived.Lib.AppendZeros
import Derived.Test.YtlefjidbpjkhlaaGreatN01
import Derived.Deep.RegionLaw
namespace Go.Proofs.YtlefjidbpjkhlaaGreat
open Go.RowKit
set_option maxRecDepth 100000 in
set_option maxHeartbeats 4000000 in
theorem spacked_any (a : Option Addr) (m c : Nat) (fs : List (Int × Int)) (w : World) (hm : m ≤ 16777216) (hR : RdF w.heap.size w a m fs) (hok : okF fs) :
  Calls Tryz.prog 142 #[.slice a m c] w fun e w' => ∃ g, e = .returned (.slice (some ⟨g, 0, none⟩) (packZ fs).length (packZ fs).length) ∧ w.heap.size ≤ g ∧ Blk .u8 5 w' g (packZ fs) ∧ Below w.heap.size w w' := by
 have H := hid (Pack_ok a m c fs w hm hR hok)
 clear hR hok hm
 generalize hL : (packZ fs).length = L at *
 go_enter Tryz.func142, Tryz.ntmps142
 go_wp2_with fail
 refine Calls.mono H.out ?_
 rintro e w1 ⟨g, rfl, hg, hb, b1⟩
 have FIN := hid (And.intro hg (And.intro hb b1))
 clear hg hb b1 H
 go_wp2
 go_ret
 exact ⟨g, rfl, FIN.out.1, FIN.out.2.1, FIN.out.2.2⟩
theorem pack2 {w1 w2 : World} {a x b y : Int} (hw2 : w2 = w1.alloc (.cells #[.int .i64 a, .int .i64 x, .int .i64 b, .int .i64 y] 204)) (hx : -9223372036854775808 ≤ x ∧ x ≤ 9223372036854775807) (hy : -9223372036854775808 ≤ y ∧ y ≤ 9223372036854775807) (hok : okF [(a, x), (b, y)]) {L : Nat} (hL : (packZ [(a, x), (b, y)]).length = L) :
  Calls Tryz.prog 142 #[.slice (some ⟨w1.heap.size, 0, none⟩) 2 2] w2 fun e w' => ∃ g, e = .returned (.slice (some ⟨g, 0, none⟩) L L) ∧ w1.heap.size < g ∧ Blk .u8 5 w' g (packZ [(a, x), (b, y)]) ∧ Below w1.heap.size w1 w' := by
 have z2 : w2.heap.size = w1.heap.size + 1 := by rw [hw2]; simp
 have b2 : Below w1.heap.size w1 w2 := by rw [hw2]; exact (Below.refl _ _).alloc (Nat.le_refl _) _
 have hc := fun i v h => cell_new (w := w1) (vs := #[.int .i64 a, .int .i64 x, .int .i64 b, .int .i64 y]) (t := 204) rfl i v h
 refine Calls.mono (spacked_any _ 2 2 [(a, x), (b, y)] w2 (by omega) ⟨rfl, fun f hf => ?_, .inr ⟨w1.heap.size, 0, rfl, by omega, fun t ht => ?_⟩⟩ hok) ?_
 ·simp at hf
  rcases hf with rfl | rfl
  ·exact hx
  ·exact hy
 ·rw [hw2]
  rcases t with _ | _ | t
  ·exact ⟨hc 0 _ rfl, hc 1 _ rfl⟩
  ·exact ⟨hc 2 _ rfl, hc 3 _ rfl⟩
  ·omega
 ·rintro e w3 ⟨g, rfl, hg, hB, b3⟩
  rw [hL]
  exact ⟨g, rfl, by omega, hB, b2.trans (b3.mono (by omega))⟩
def markZ : List Int := [99, 105, 115, 116, 101, 114, 110, 39, 115, 32, 99, 111, 117, 110, 116, 115]
def hdgZ (r n : Nat) : List Int := markZ ++ packZ [(3, (r : Int)), (2, (n : Int))]
theorem length_hdgZ (r n : Nat) : (hdgZ r n).length = 21 := by simp [hdgZ, markZ, packZ, Pl.dig]
theorem okF_hdg {r n : Nat} (h1 : r ≤ 262144) (h2 : n ≤ 1024) : okF [(3, (r : Int)), (2, (n : Int))] := by
 intro f hf
 simp at hf
 rcases hf with rfl | rfl
 ·unfold chk wfB; simp; omega
 ·unfold chk wfB; simp; omega
theorem append_grow5 (w : World) {a : Addr} {n : Nat} {xs : List Value} (hx : xs.length = n) (hc : ∀ j u, xs[j]? = some u → w.cell? (a.add j) = some u) (ad : Addr) (m c : Nat) (news : List Value) (hl : news.length = m) (hnews : ∀ j u, news[j]? = some u → w.cell? (ad.add j) = some u) (hm : 0 < m) (h63 : n + m ≤ 1073741824) :
  ∃ cap w', (Builtin.append_ #[65, 65] 65 #[.slice (some a) n n, .slice (some ad) m c]).run Tryz.prog w = .ok (.slice (some ⟨w.heap.size, 0, none⟩) (n + m) cap) w' ∧ w'.ownsRow 0 5 1 (.slice (some ⟨w.heap.size, 0, none⟩) (n + m) cap) (n + m) (xs ++ news) ∧ Below w.heap.size w w' := by
 obtain ⟨i, hi, hz, hsize, hby⟩ := info_parts info5
 have hsmall : n + m ≤ maxLen := by unfold maxLen; omega
 have hlen : (xs ++ news).length = (n + m) * i.size := by rw [List.length_append, hx, hl, hsize, Nat.mul_one]
 have hge := grownCap_ge w (n + m) n 5
 have hcm : grownCap w (n + m) n 5 ≤ maxLen := grownCap_le_maxLen w (n + m) n 5 hsmall
 have hg : n < n + m := by omega
 have hr := run_append_grow (P := Tryz.prog) w 65 65 5 i (.int .u8 0) Tryz.underlying65 hi hz a n n xs (by rw [hsize, Nat.mul_one]; exact hx) hc ad m c news (by rw [hsize, Nat.mul_one]; exact hl) hnews hg (by omega) (growslice_fits hg (by rw [hby]; omega))
 refine ⟨_, _, hr, ⟨by rw [hlen, hsize], .inr ⟨w.heap.size, _, _, rfl, Nat.zero_le _, heap_alloc_new w.drew _, hge, hcm, ?_, ?_⟩⟩, (Below.refl _ _).drew.alloc (by simp) _⟩
 ·simp only [Array.size_append, List.size_toArray, size_zeroCells, hx, hl]
  simp [Value.cells]
  omega
 ·rw [hsize] at hlen
  simp only [Array.toList_append, List.append_assoc]
  rw [← List.append_assoc, ← hlen]
  exact List.take_left
set_option maxRecDepth 100000 in
set_option maxHeartbeats 4000000 in
theorem heading_any {r n : Nat} (f : Int) (h1 : r ≤ 262144) (h2 : n ≤ 1024) (w : World) : Calls Tryz.prog 141 #[.agg #[.int .i64 f, .int .i64 (r : Int)], .int .i64 (n : Int)] w fun e w' => ∃ g cap, e = .returned (.slice (some ⟨g, 0, none⟩) 21 cap) ∧ w.heap.size ≤ g ∧ Own w' g 21 cap (hdgZ r n) ∧ Below w.heap.size w w' := by
 obtain ⟨w0, hw0⟩ : ∃ w0, w0 = w.alloc (.cells #[.int .i64 f, .int .i64 (r : Int)] 92) := ⟨_, rfl⟩
 have z0 : w0.heap.size = w.heap.size + 1 := by rw [hw0]; simp
 have b0 : Below w.heap.size w w0 := by rw [hw0]; exact (Below.refl _ _).alloc (Nat.le_refl _) _
 obtain ⟨w1, hw1⟩ : ∃ w1, w1 = w0.alloc (.cells #[.int .u8 99, .int .u8 105, .int .u8 115, .int .u8 116, .int .u8 101, .int .u8 114, .int .u8 110, .int .u8 39, .int .u8 115, .int .u8 32, .int .u8 99, .int .u8 111, .int .u8 117, .int .u8 110, .int .u8 116, .int .u8 115] 5 (16, 17)) := ⟨_, rfl⟩
 have z1 : w1.heap.size = w0.heap.size + 1 := by rw [hw1]; simp
 have b01 : Below w0.heap.size w0 w1 := by rw [hw1]; exact (Below.refl _ _).alloc (Nat.le_refl _) _
 have b1 : Below w.heap.size w w1 := b0.trans (b01.mono (by omega))
 obtain ⟨w2, hw2⟩ : ∃ w2, w2 = w1.alloc (.cells #[.int .i64 3, .int .i64 (r : Int), .int .i64 2, .int .i64 (n : Int)] 204) := ⟨_, rfl⟩
 have k1 : w1.cell? ⟨w.heap.size, 1, none⟩ = some (.int .i64 (r : Int)) := (b01.cell (p := ⟨w.heap.size, 1, none⟩) (by show w.heap.size < _; omega)).trans (by rw [hw0]; exact cell_new rfl 1 _ rfl)
 have hblk : w1.heap[w0.heap.size]? = some (.cells #[.int .u8 99, .int .u8 105, .int .u8 115, .int .u8 116, .int .u8 101, .int .u8 114, .int .u8 110, .int .u8 39, .int .u8 115, .int .u8 32, .int .u8 99, .int .u8 111, .int .u8 117, .int .u8 110, .int .u8 116, .int .u8 115] 5 (16, 17)) := by rw [hw1]; exact Array.getElem?_push_size
 have hmk : ∀ j u, (markZ.map (Value.int .u8))[j]? = some u → w1.cell? ((⟨w0.heap.size, 0, none⟩ : Addr).add j) = some u := fun j u hu => World.news_of_block (w := w1) (B := w0.heap.size) (cs := #[.int .u8 99, .int .u8 105, .int .u8 115, .int .u8 116, .int .u8 101, .int .u8 114, .int .u8 110, .int .u8 39, .int .u8 115, .int .u8 32, .int .u8 99, .int .u8 111, .int .u8 117, .int .u8 110, .int .u8 116, .int .u8 115]) (t := 5) (fr := (16, 17)) hblk j u (by simpa [markZ] using hu)
 have HP : Hid (Calls Tryz.prog 142 #[.slice (some ⟨w1.heap.size, 0, none⟩) 2 2] w2 fun e w3 => ∃ g, e = .returned (.slice (some ⟨g, 0, none⟩) 5 5) ∧ ∃ cap w4, (Builtin.append_ #[65, 65] 65 #[.slice (some ⟨w0.heap.size, 0, none⟩) 16 16, .slice (some ⟨g, 0, none⟩) 5 5]).run Tryz.prog w3 = .ok (.slice (some ⟨w3.heap.size, 0, none⟩) 21 cap) w4 ∧ w.heap.size ≤ w3.heap.size ∧ Own w4 w3.heap.size 21 cap (hdgZ r n) ∧ Below w.heap.size w w4) := by
  refine Calls.mono (pack2 hw2 (by omega) (by omega) (okF_hdg h1 h2) (L := 5) (by simp [packZ, Pl.dig])) ?_
  rintro e w3 ⟨g, rfl, hg, hB, b3⟩
  obtain ⟨cap, w4, hr, ho, b4⟩ := append_grow5 w3 (a := ⟨w0.heap.size, 0, none⟩) (n := 16) (xs := markZ.map (Value.int .u8)) rfl (fun j u hu => (b3.cell (p := (⟨w0.heap.size, 0, none⟩ : Addr).add j) (by rw [Addr.add_lit]; show w0.heap.size < _; omega)).trans (hmk j u hu)) ⟨g, 0, none⟩ 5 5 ((packZ [(3, (r : Int)), (2, (n : Int))]).map (Value.int .u8)) (by simp [packZ, Pl.dig]) (fun j u hu => World.news_of_block (w := w3) (B := g) hB j u (by simpa using hu)) (by decide) (by decide)
  have s3 := b3.size
  refine ⟨g, rfl, cap, w4, hr, by omega, Own.of (base := 0) ?_, (b1.trans (b3.mono (by omega))).trans (b4.mono (by omega))⟩
  rw [← List.map_append] at ho
  exact ho
 have hcv : (convert 65 65 (.slice (some ⟨w.heap.size + 1, 0, none⟩) 16 16)).run Tryz.prog ((w.alloc (.cells #[.int .i64 f, .int .i64 (r : Int)] 92)).alloc (.cells #[.int .u8 99, .int .u8 105, .int .u8 115, .int .u8 116, .int .u8 101, .int .u8 114, .int .u8 110, .int .u8 39, .int .u8 115, .int .u8 32, .int .u8 99, .int .u8 111, .int .u8 117, .int .u8 110, .int .u8 116, .int .u8 115] 5)) = .ok (.slice (some ⟨w.heap.size + 1, 0, none⟩) 16 16) ((w.alloc (.cells #[.int .i64 f, .int .i64 (r : Int)] 92)).alloc (.cells #[.int .u8 99, .int .u8 105, .int .u8 115, .int .u8 116, .int .u8 101, .int .u8 114, .int .u8 110, .int .u8 39, .int .u8 115, .int .u8 32, .int .u8 99, .int .u8 111, .int .u8 117, .int .u8 110, .int .u8 116, .int .u8 115] 5 (16, 17))) := by
  have := Lib.run_convert_bytes_const (P := Tryz.prog) w0 65 5 #[.int .u8 99, .int .u8 105, .int .u8 115, .int .u8 116, .int .u8 101, .int .u8 114, .int .u8 110, .int .u8 39, .int .u8 115, .int .u8 32, .int .u8 99, .int .u8 111, .int .u8 117, .int .u8 110, .int .u8 116, .int .u8 115] 16 16 Tryz.underlying65 Tryz.underlying5
  rw [z0, hw0] at this
  exact this
 have HW0 := hid hw0
 have HW1 := hid hw1
 have HW2 := hid hw2
 have k1' : ((w.alloc (.cells #[.int .i64 f, .int .i64 (r : Int)] 92)).alloc (.cells #[.int .u8 99, .int .u8 105, .int .u8 115, .int .u8 116, .int .u8 101, .int .u8 114, .int .u8 110, .int .u8 39, .int .u8 115, .int .u8 32, .int .u8 99, .int .u8 111, .int .u8 117, .int .u8 110, .int .u8 116, .int .u8 115] 5 (16, 17))).cell? ⟨w.heap.size, 1, none⟩ = some (.int .i64 (r : Int)) := by rw [← hw0, ← hw1]; exact k1
 have e1 : w1.heap.size = w.heap.size + 1 + 1 := by omega
 rw [e1, z0] at HP
 clear hw0 hw1 hw2 b0 b1 b01 k1 hblk hmk z0 z1 e1
 go_enter Tryz.func141, Tryz.ntmps141
 go_wp2_with fail
 rw [← HW0.out, ← HW1.out, ← HW2.out]
 refine Calls.mono HP.out ?_
 rintro e w3 ⟨g, rfl, cap, w4, happ, hF⟩
 have FIN := hid hF
 clear hF HP HW0 HW1 HW2 k1' hcv
 go_wp2_with (at_builtin; refine Lib.wpList_append_run _ rfl _ _ _ _ rfl _ _ rfl rfl _ _ happ ?_)
 go_wp2
 go_ret
 exact ⟨_, cap, rfl, FIN.out.1, FIN.out.2.1, FIN.out.2.2⟩
open Go.RowKit
theorem isB_hdgZ (r n : Nat) : Pl.isB (hdgZ r n) := by
 intro z hz
 rcases List.mem_append.1 hz with h | h
 ·simp [markZ] at h
  omega
 ·exact isB_packZ _ z h
def spgZ (r n : Nat) : List Int := splice (zeros 512) 0 (hdgZ r n)
set_option maxRecDepth 100000 in
set_option maxHeartbeats 4000000 in
theorem sblank_any {r n : Nat} (f : Int) (h1 : r ≤ 262144) (h2 : n ≤ 1024) (w : World) : Calls Tryz.prog 91 #[.agg #[.int .i64 f, .int .i64 (r : Int)], .int .i64 (n : Int)] w fun e w' => ∃ g, e = .returned (.slice (some ⟨g, 0, none⟩) 512 512) ∧ w.heap.size ≤ g ∧ Blk .u8 5 w' g (spgZ r n) ∧ Below w.heap.size w w' := by
 obtain ⟨w0, hw0⟩ : ∃ w0, w0 = w.alloc (.cells #[.int .i64 f, .int .i64 (r : Int)] 92) := ⟨_, rfl⟩
 have z0 : w0.heap.size = w.heap.size + 1 := by rw [hw0]; simp
 have b0 : Below w.heap.size w w0 := by rw [hw0]; exact (Below.refl _ _).alloc (Nat.le_refl _) _
 obtain ⟨wm, hwm⟩ : ∃ wm, wm = w0.alloc (.cells ((zeros 512).map (Value.int .u8)).toArray 5) := ⟨_, rfl⟩
 have zm : wm.heap.size = w0.heap.size + 1 := by rw [hwm]; simp
 have b01 : Below w0.heap.size w0 wm := by rw [hwm]; exact (Below.refl _ _).alloc (Nat.le_refl _) _
 have bm : Below w.heap.size w wm := b0.trans (b01.mono (by omega))
 have hmk : ∀ u : World, (Instr.makeSlice 65 (.int .i64 512) (.int .i64 512)).run Tryz.prog u = .ok (.slice (some ⟨u.heap.size, 0, none⟩) 512 512) (u.alloc (.cells ((zeros 512).map (Value.int .u8)).toArray 5)) := make_u8 512 (by omega)
 have cN : ∀ t v, #[Value.int .i64 f, .int .i64 (r : Int)][t]? = some v → wm.cell? ⟨w.heap.size, t, none⟩ = some v := fun t v hv => (b01.cell (p := ⟨w.heap.size, t, none⟩) (by show w.heap.size < _; omega)).trans (by rw [hw0]; exact cell_new rfl t _ hv)
 have k0 := cN 0 _ rfl
 have k1 := cN 1 _ rfl
 have HH : Hid (Calls Tryz.prog 141 #[.agg #[.int .i64 f, .int .i64 (r : Int)], .int .i64 (n : Int)] wm fun e w2 => ∃ g2 cap, e = .returned (.slice (some ⟨g2, 0, none⟩) 21 cap) ∧ ∃ w3, Sem.run Tryz.prog (Builtin.copy_ #[65, 65] 3 #[.slice (some ⟨w.heap.size + 1, 0, none⟩) 512 512, .slice (some ⟨g2, 0, none⟩) 21 cap]) w2 = .ok (.int .i64 21) w3 ∧ Blk .u8 5 w3 (w.heap.size + 1) (spgZ r n) ∧ Below w.heap.size w w3) := by
  refine Calls.mono (heading_any f h1 h2 wm) ?_
  rintro e w2 ⟨g2, cap, rfl, hg2, hO, b2⟩
  have hB2 : Blk .u8 5 w2 (w.heap.size + 1) (zeros 512) := Blk.below (by rw [← z0, hwm]; exact Blk.new w0 _) b2 (by omega)
  obtain ⟨w3, hcp, hB3, hs3, hg3⟩ := copy_u8 (w.heap.size + 1) 0 512 512 (some ⟨g2, 0, none⟩) 21 cap (zeros 512) (hdgZ r n) w2 w2.heap.size hB2 (hO.rd (isB_hdgZ r n)) (by omega) (by rw [length_zeros]; omega)
  exact ⟨g2, cap, rfl, w3, hcp, hB3, (bm.trans (b2.mono (by omega))).grown hg3 (by have := bm.size; have := b2.size; omega) (fun k h => by cases h; omega)⟩
 have HW0 := hid hw0
 have HWM := hid hwm
 have hsz : Hid (w0.heap.size = w.heap.size + 1) := z0
 clear hw0 hwm b0 b01 bm cN z0 zm h1 h2
 go_enter Tryz.func91, Tryz.ntmps91
 go_wp2_with fail
 (try rw [← HW0.out])
 (try rw [← HWM.out])
 go_wp2_with fail
 refine Calls.mono HH.out ?_
 rintro e w2 ⟨g2, cap, rfl, w3, hcp, hF⟩
 have FIN := hid hF
 clear hF HH k0 k1
 go_wp2
 go_ret
 exact ⟨_, rfl, by omega, FIN.out.1, FIN.out.2⟩
open Go.RowKit
theorem okF_shead {sz lf : Nat} (h1 : sz ≤ 262144) (h2 : lf ≤ 1099511627775) : okF [(3, (sz : Int)), (5, (lf : Int))] := by
 intro f hf
 simp at hf
 rcases hf with rfl | rfl
 ·unfold chk wfB; simp; omega
 ·unfold chk wfB; simp; omega
def sheadZ (sz lf : Nat) : List Int := packZ [(3, (sz : Int)), (5, (lf : Int))]
theorem length_sheadZ (sz lf : Nat) : (sheadZ sz lf).length = 8 := by simp [sheadZ, packZ, Pl.dig]
set_option maxRecDepth 100000 in
set_option maxHeartbeats 4000000 in
theorem hput_any {w : World} {G cap : Nat} {zs : List Int} {sz lf : Nat} (h1 : sz ≤ 262144) (h2 : lf ≤ 1099511627775) (hO : Own w G 512 cap zs) : Calls Tryz.prog 92 #[.agg #[.int .i64 (sz : Int), .int .i64 (lf : Int)], .slice (some ⟨G, 0, none⟩) 512 cap] w fun e w' => e = .returned (.tuple #[]) ∧ Own w' G 512 cap (splice zs 21 (sheadZ sz lf)) ∧ But (fun k => k = G) w w' := by
 obtain ⟨PO, hPO⟩ : ∃ PO : Ending → World → Prop, PO = fun e w' => e = .returned (.tuple #[]) ∧ Own w' G 512 cap (splice zs 21 (sheadZ sz lf)) ∧ But (fun k => k = G) w w' := ⟨_, rfl⟩
 rw [← hPO]
 obtain ⟨pk, hpk⟩ : ∃ pk, pk = w.heap.size := ⟨_, rfl⟩
 obtain ⟨w0, hw0⟩ : ∃ w0, w0 = w.alloc (.cells #[.int .i64 (sz : Int), .int .i64 (lf : Int)] 99) := ⟨_, rfl⟩
 have z0 : w0.heap.size = w.heap.size + 1 := by rw [hw0]; simp
 have b0 : Below w.heap.size w w0 := by rw [hw0]; exact (Below.refl _ _).alloc (Nat.le_refl _) _
 have cN : ∀ t v, #[Value.int .i64 (sz : Int), .int .i64 (lf : Int)][t]? = some v → w0.cell? ⟨pk, t, none⟩ = some v := fun t v hv => by rw [hw0, hpk]; exact cell_new rfl t _ hv
 have k0 := cN 0 _ rfl
 have k1 := cN 1 _ rfl
 have hcap : 512 ≤ cap := by
  rcases hO.2 with ⟨q, _⟩ | ⟨g, c, cur, q, _, _, q2, _⟩
  ·cases q
  ·injection q with _ _ q; omega
 have hGl : G < w.heap.size := hO.lt
 have hc29 : (29 : Int) ≤ (cap : Int) := by omega
 have hc21 : ¬ cap = 21 := by omega
 obtain ⟨wf, hwf⟩ : ∃ wf, wf = (w0.alloc (.cells #[.int .i64 3, .int .i64 (sz : Int), .int .i64 5, .int .i64 (lf : Int)] 204)).drew := ⟨_, rfl⟩
 have bf : Below w0.heap.size w0 wf := by rw [hwf]; exact ((Below.refl _ _).alloc (Nat.le_refl _) _).drew
 have kf : wf.cell? ⟨pk, 0, none⟩ = some (.int .i64 (sz : Int)) ∧ wf.cell? ⟨pk, 1, none⟩ = some (.int .i64 (lf : Int)) := ⟨(bf.cell (p := ⟨pk, 0, none⟩) (by show pk < _; omega)).trans k0, (bf.cell (p := ⟨pk, 1, none⟩) (by show pk < _; omega)).trans k1⟩
 have HP : Hid (Calls Tryz.prog 142 #[.slice (some ⟨w0.heap.size, 0, none⟩) 2 2] wf fun e w2 => ∃ g, e = .returned (.slice (some ⟨g, 0, none⟩) 8 8) ∧ (w2.cell? ⟨pk, 0, none⟩ = some (.int .i64 (sz : Int)) ∧ w2.cell? ⟨pk, 1, none⟩ = some (.int .i64 (lf : Int))) ∧ ∃ w3, (Builtin.copy_ #[65, 65] 3 #[.slice (some ⟨G, 21, none⟩) 8 (cap - 21), .slice (some ⟨g, 0, none⟩) 8 8]).run Tryz.prog w2 = .ok (.int .i64 8) w3 ∧ (w3.cell? ⟨pk, 0, none⟩ = some (.int .i64 (sz : Int)) ∧ w3.cell? ⟨pk, 1, none⟩ = some (.int .i64 (lf : Int))) ∧ PO (.returned (.tuple #[])) w3) := by
  refine Calls.mono (pack2 (w1 := w0.drew) (w2 := wf) (hwf.trans rfl) (by omega) (by omega) (okF_shead h1 h2) (L := 8) (by simp [packZ, Pl.dig])) ?_
  rintro e w2 ⟨g, rfl, hg, hB, b2⟩
  have b2' : Below w0.heap.size w0 w2 := (Below.refl _ _).drew.trans b2
  have hO2 : Own w2 G 512 cap zs := hO.keep ((b2'.block G (by omega)).trans (b0.block G hGl))
  have hgl : w0.heap.size < g := hg
  obtain ⟨w3, hr, hO3, bt3⟩ := copy_own (ty := 3) (o := 21) (dLen := 8) (dCap := cap - 21) (ad := ⟨g, 0, none⟩) (m := 8) (sCap := 8) (cs := packZ [(3, (sz : Int)), (5, (lf : Int))]) hO2 (by simp [packZ, Pl.dig]) (by omega) (by omega) (fun j u hu => World.news_of_block (w := w2) (B := g) hB j u (by simpa using hu))
  have K2 : ∀ t v, w0.cell? ⟨pk, t, none⟩ = some v → w2.cell? ⟨pk, t, none⟩ = some v := fun t v hv => (b2'.cell (p := ⟨pk, t, none⟩) (by show pk < _; omega)).trans hv
  have K3 : ∀ t v, w2.cell? ⟨pk, t, none⟩ = some v → w3.cell? ⟨pk, t, none⟩ = some v := fun t v hv => (bt3.cell (p := ⟨pk, t, none⟩) (by show pk < _; have := b2'.size; omega) (by show ¬ pk = G; omega)).trans hv
  refine ⟨g, rfl, ⟨K2 0 _ k0, K2 1 _ k1⟩, w3, hr, ⟨K3 0 _ (K2 0 _ k0), K3 1 _ (K2 1 _ k1)⟩, ?_⟩
  rw [hPO]
  refine ⟨rfl, hO3, ?_⟩
  exact ((But.of_below b0).trans (But.of_below b2')).comp bt3 (fun _ _ q => q)
 have HW := hid hw0
 have HK := hid hpk
 have HWF := hid hwf
 clear hw0 b0 cN z0 hPO bf h1 h2 hO hpk hwf hGl
 go_enter Tryz.func92, Tryz.ntmps92
 go_wp2_with fail
 rw [← HW.out, ← HK.out]
 refine Gz (S := fun w' => w'.cell? ⟨pk, 0, none⟩ = some (.int .i64 (sz : Int)) ∧ w'.cell? ⟨pk, 1, none⟩ = some (.int .i64 (lf : Int))) ⟨k0, k1⟩ (fun hSS => ?_)
 refine Ti 0 rfl ?_
 refine Ti 1 rfl ?_
 refine Ti 2 rfl ?_
 refine Ti 3 rfl ?_
 try simp only [Act.put, zA, zB, zC]
 refine Ti 4 rfl ?_
 refine Ti 5 rfl ?_
 refine Ti 6 rfl ?_
 refine Ti 7 rfl ?_
 try simp only [Act.put, zA, zB, zC]
 refine Ri 8 rfl (fun K9 hK9 => ?_)
 go_simp
 rw [← HWF.out]
 refine hK9.out _ _ kf (fun hSS => ?_)
 try simp only [Act.put, zA, zB, zC]
 refine Ri 9 rfl (fun K9 hK9 => ?_)
 go_simp
 go_at_call 142
 refine Calls.mono HP.out ?_
 rintro e w2 ⟨g, rfl, hk2, w3, hcp, hk3, hF⟩
 have FIN := hid hF
 clear hF HP
 refine hK9.out _ _ hk2 (fun hSS => ?_)
 try simp only [Act.put, zA, zB, zC]
 refine Ri 10 rfl (fun K9 hK9 => ?_)
 go_simp
 refine hK9.out _ _ hk3 (fun hSS => ?_)
 try simp only [Act.put, zA, zB, zC]
 refine Dn ?_
 clear hSS
 go_wp2
 go_end0
 exact FIN.out
open Go.RowKit
theorem info186 : (Tryz.prog.info? 204).map (fun i => (i.zero, i.size, i.bytes)) = some (some (.agg #[.int .i64 0, .int .i64 0]), 2, 16) := by kernel_rfl
theorem head_ready {w1 w2 : World} (fr bl seq : Int) (hw2 : w2 = (w1.drew.alloc (.cells #[.int .i64 fr, .int .i64 bl] 148)).alloc (.cells #[.int .i64 3, .int .i64 fr, .int .i64 3, .int .i64 bl] 204)) :
  (w2.alloc (.cells #[.int .i64 8, .int .i64 seq] 204)).ownsRow 0 204 2 (.slice (some ⟨w1.heap.size + 1, 0, none⟩) 2 2) 2 [.int .i64 3, .int .i64 fr, .int .i64 3, .int .i64 bl] ∧ w2.heap.size = w1.heap.size + 2 ∧ Below w1.heap.size w1 w2 := by
 have z2 : w2.heap.size = w1.heap.size + 2 := by rw [hw2]; simp
 refine ⟨⟨rfl, .inr ⟨w1.heap.size + 1, 2, #[.int .i64 3, .int .i64 fr, .int .i64 3, .int .i64 bl], rfl, Nat.zero_le _, ?_, Nat.le_refl _, by unfold maxLen; omega, rfl, rfl⟩⟩, z2, ?_⟩
 ·rw [Below.heap_alloc _ _ _ (by omega), hw2]
  show ((w1.drew.alloc (.cells #[.int .i64 fr, .int .i64 bl] 148)).heap.push _)[w1.heap.size + 1]? = _
  have hs : (w1.drew.alloc (.cells #[.int .i64 fr, .int .i64 bl] 148)).heap.size = w1.heap.size + 1 := by simp
  have e := Array.getElem?_push_size (xs := (w1.drew.alloc (.cells #[.int .i64 fr, .int .i64 bl] 148)).heap) (x := Obj.cells #[.int .i64 3, .int .i64 fr, .int .i64 3, .int .i64 bl] 204)
  rw [hs] at e
  exact e
 ·rw [hw2]
  exact (((Below.refl w1.heap.size w1).drew).alloc (Nat.le_refl _) _).alloc (by simp) _
theorem head_ready2 {w1 w2 : World} (fr bl seq : Int) (hw2 : w2 = ((w1.alloc (.cells #[.int .i64 8, .int .i64 seq] 204)).drew.alloc (.cells #[.int .i64 fr, .int .i64 bl] 148)).alloc (.cells #[.int .i64 3, .int .i64 fr, .int .i64 3, .int .i64 bl] 204)) :
  w2.ownsRow 0 204 2 (.slice (some ⟨w1.heap.size + 1 + 1, 0, none⟩) 2 2) 2 [.int .i64 3, .int .i64 fr, .int .i64 3, .int .i64 bl] ∧ w2.heap.size = w1.heap.size + 3 ∧ Below w1.heap.size w1 w2 ∧ ∀ j y, [Value.int .i64 8, .int .i64 seq][j]? = some y → w2.cell? ((⟨w1.heap.size, 0, none⟩ : Addr).add j) = some y := by
 have z2 : w2.heap.size = w1.heap.size + 3 := by rw [hw2]; simp
 have b2 : Below (w1.heap.size + 1) (w1.alloc (.cells #[.int .i64 8, .int .i64 seq] 204)) w2 := by
  rw [hw2]
  exact (((Below.refl _ _).drew).alloc (by simp) _).alloc (by simp) _
 refine ⟨⟨rfl, .inr ⟨w1.heap.size + 1 + 1, 2, #[.int .i64 3, .int .i64 fr, .int .i64 3, .int .i64 bl], rfl, Nat.zero_le _, ?_, Nat.le_refl _, by unfold maxLen; omega, rfl, rfl⟩⟩, z2, ?_, fun j y hj => ?_⟩
 ·rw [hw2]
  have hs : ((w1.alloc (.cells #[.int .i64 8, .int .i64 seq] 204)).drew.alloc (.cells #[.int .i64 fr, .int .i64 bl] 148)).heap.size = w1.heap.size + 1 + 1 := by simp
  have e := Array.getElem?_push_size (xs := ((w1.alloc (.cells #[.int .i64 8, .int .i64 seq] 204)).drew.alloc (.cells #[.int .i64 fr, .int .i64 bl] 148)).heap) (x := Obj.cells #[.int .i64 3, .int .i64 fr, .int .i64 3, .int .i64 bl] 204)
  rw [hs] at e
  exact e
 ·exact ((Below.refl w1.heap.size w1).alloc (Nat.le_refl _) _).trans (b2.mono (by omega))
 ·rw [← news2 w1 (.int .i64 8) (.int .i64 seq) 204 j y hj]
  exact b2.cell (p := (⟨w1.heap.size, 0, none⟩ : Addr).add j) (by simp only [Addr.add]; split <;> exact Nat.lt_succ_self _)
theorem head_packed {w w6 : World} {g cap : Nat} {fr bl seq : Nat} (ok : okF [(3, (fr : Int)), (3, (bl : Int)), (8, (seq : Int))]) (hb : Below w.heap.size w w6) (ho : w6.ownsRow 0 204 2 (.slice (some ⟨g, 0, none⟩) 3 cap) 3 [.int .i64 3, .int .i64 (fr : Int), .int .i64 3, .int .i64 (bl : Int), .int .i64 8, .int .i64 (seq : Int)]) (h1 : fr ≤ 524288) (h2 : bl ≤ 524288) (h3 : seq ≤ 1099511627776) :
  Calls Tryz.prog 179 #[.slice (some ⟨g, 0, none⟩) 3 cap] w6 fun e w' => ∃ g, e = .returned (.slice (some ⟨g, 0, none⟩) 14 14) ∧ w.heap.size ≤ g ∧ Blk .u8 5 w' g (headB fr bl seq) ∧ Below w.heap.size w w' := by
 have hs := hb.size
 refine Calls.mono (packed_any _ 3 cap [(3, (fr : Int)), (3, (bl : Int)), (8, (seq : Int))] w6 (by omega) ⟨rfl, fun f hf => ?_, .inr ⟨g, 0, rfl, (World.ownsRow.lt ho g rfl).2, fun t ht => ?_⟩⟩ ok) ?_
 ·simp at hf; rcases hf with rfl | rfl | rfl <;> simp <;> omega
 ·have hc := fun i (hi : i < 6) => World.ownsRow.cellAt ho i hi
  rcases t with _ | _ | _ | t
  ·exact ⟨hc 0 (by omega), hc 1 (by omega)⟩
  ·exact ⟨hc 2 (by omega), hc 3 (by omega)⟩
  ·exact ⟨hc 4 (by omega), hc 5 (by omega)⟩
  ·omega
 ·rintro e w3 ⟨g, rfl, hg, hB, b3⟩
  exact ⟨g, by rw [show (packZ [((3 : Int), (fr : Int)), (3, (bl : Int)), (8, (seq : Int))]).length = 14 from length_headB fr bl seq], by omega, hB, hb.trans (b3.mono (by omega))⟩
set_option maxRecDepth 100000 in
set_option maxHeartbeats 4000000 in
theorem headBody_any {fr bl seq : Nat} (h1 : fr ≤ 524288) (h2 : bl ≤ 524288) (h3 : seq ≤ 1099511627776) (w : World) : Calls Tryz.prog 266 #[.agg #[.int .i64 (fr : Int), .int .i64 (bl : Int), .int .i64 (seq : Int)]] w fun e w' => ∃ g, e = .returned (.slice (some ⟨g, 0, none⟩) 14 14) ∧ w.heap.size ≤ g ∧ Blk .u8 5 w' g (headB fr bl seq) ∧ Below w.heap.size w w' := by
 obtain ⟨w1, hw1⟩ : ∃ w1, w1 = w.alloc (.cells #[.int .i64 (fr : Int), .int .i64 (bl : Int), .int .i64 (seq : Int)] 233) := ⟨_, rfl⟩
 have hb1 : w1.heap[w.heap.size]? = some (.cells #[.int .i64 (fr : Int), .int .i64 (bl : Int), .int .i64 (seq : Int)] 233 (0, 0)) := by
  rw [hw1]
  show (w.heap.push _)[w.heap.size]? = _
  simp
 have z1 : Hid (w1.heap.size = w.heap.size + 1) := by rw [hw1]; exact (by simp : (w.alloc _).heap.size = w.heap.size + 1)
 have b1 : Hid (Below w.heap.size w w1) := by rw [hw1]; exact (Below.refl w.heap.size w).alloc (Nat.le_refl _) _
 have k0 : w1.cell? ⟨w.heap.size, 0, none⟩ = some (.int .i64 (fr : Int)) := by simp [World.cell?, hb1]
 have k1 : w1.cell? ⟨w.heap.size, 1, none⟩ = some (.int .i64 (bl : Int)) := by simp [World.cell?, hb1]
 have k2 : w1.cell? ⟨w.heap.size, 2, none⟩ = some (.int .i64 (seq : Int)) := by simp [World.cell?, hb1]
 have HPK : Hid (∀ (w6 : World) (g cap : Nat), Below w.heap.size w w6 → w6.ownsRow 0 204 2 (.slice (some ⟨g, 0, none⟩) 3 cap) 3 [.int .i64 3, .int .i64 (fr : Int), .int .i64 3, .int .i64 (bl : Int), .int .i64 8, .int .i64 (seq : Int)] → _) := fun w6 g cap q1 q2 => head_packed (w := w) (okF_head h1 h2 h3) q1 q2 h1 h2 h3
 have k0a : (w1.alloc (.cells #[.int .i64 8, .int .i64 (seq : Int)] 204)).cell? ⟨w.heap.size, 0, none⟩ = some (.int .i64 (fr : Int)) := (World.cell?_alloc_past _ _ _ (by have := z1.out; show w.heap.size < _; omega)).trans k0
 have k1a : (w1.alloc (.cells #[.int .i64 8, .int .i64 (seq : Int)] 204)).cell? ⟨w.heap.size, 1, none⟩ = some (.int .i64 (bl : Int)) := (World.cell?_alloc_past _ _ _ (by have := z1.out; show w.heap.size < _; omega)).trans k1
 clear hb1 h1 h2 h3
 obtain ⟨i186, hi186, hz186, hs186, hb186⟩ := info_parts info186
 go_enter Tryz.func266, Tryz.ntmps266
 go_wp2_with fail
 rw [← hw1]
 clear hw1
 go_region_law (first
  | (go_simp; go_at_call 268; refine Calls.mono (fields_any _ _ _) ?_; rintro e w2 ⟨rfl, hw2⟩; have HW2 := hid (head_ready (fr : Int) (bl : Int) (seq : Int) hw2); have c2 : w2.cell? ⟨w.heap.size, 2, none⟩ = some (.int .i64 (seq : Int)) := (HW2.out.2.2.cell (p := ⟨w.heap.size, 2, none⟩) (by have := z1.out; show w.heap.size < _; omega)).trans k2; clear hw2; dsimp only)
  | (go_simp; go_at_call 268; refine Calls.mono (fields_any _ _ _) ?_; rintro e w2 ⟨rfl, hw2⟩; have HX2 := hid (head_ready2 (fr : Int) (bl : Int) (seq : Int) hw2); clear hw2; dsimp only)
  | (refine step_append_lies _ (by rfl) _ _ _ (by rfl) 0 204 i186 (.agg #[.int .i64 0, .int .i64 0]) 2 16 Tryz.underlying242 hi186 hz186 hs186 hb186 rfl (by decide) _ 2 _ (by rfl) (by exact HX2.out.1) ⟨w1.heap.size, 0, none⟩ 1 1 [.int .i64 8, .int .i64 (seq : Int)] (by rfl) (by rfl) (by exact HX2.out.2.2.2) (by intro u hu; simp at hu; rcases hu with rfl | rfl <;> rfl) (by decide) (by unfold maxLen; omega) (by omega) (by omega) (w2.heap.size) (by rfl) ?_; intro g4 cap4 w6 ho4 hg4 hlie4 _; have HO5 := hid ho4; have HG5 := hid hg4; clear ho4 hg4 hlie4)
  | (go_simp; go_at_call 179; refine Calls.mono (HPK.out w6 g4 cap4 (((But.of_below b1.out (X := fun x => w.heap.size ≤ x)).trans (But.of_below HX2.out.2.2.1)).of_grown HG5.out (fun x e _ => by have := z1.out; cases e; show w.heap.size ≤ w1.heap.size + 1 + 1; omega)|>.below (Nat.le_refl _) (fun k hk q => by omega)) HO5.out) ?_; rintro e w7 ⟨g7, rfl, q7⟩; have FIN := hid q7; clear q7; dsimp only)
  | (refine step_append_lies _ (by rfl) _ _ _ (by rfl) 0 204 i186 (.agg #[.int .i64 0, .int .i64 0]) 2 16 Tryz.underlying242 hi186 hz186 hs186 hb186 rfl (by decide) _ 2 _ (by rfl) (by exact HW2.out.1) ⟨w2.heap.size, 0, none⟩ 1 1 [.int .i64 8, .int .i64 (seq : Int)] (by rfl) (by rfl) (by exact news2 w2 _ _ _) (by intro u hu; simp at hu; rcases hu with rfl | rfl <;> rfl) (by decide) (by unfold maxLen; omega) (by omega) (by omega) (w2.heap.size + 1) (by simp) ?_; intro g4 cap4 w6 ho4 hg4 hlie4 _; have HO4 := hid ho4; have HG4 := hid hg4; clear ho4 hg4 hlie4)
  | (go_simp; go_at_call 179; refine Calls.mono (HPK.out w6 g4 cap4 (((((But.of_below b1.out (X := fun x => w.heap.size ≤ x)).trans (But.of_below HW2.out.2.2)).alloc (.cells #[.int .i64 8, .int .i64 (seq : Int)] 204)).of_grown HG4.out (fun x e _ => by have := z1.out; cases e; show w.heap.size ≤ w1.heap.size + 1; omega)).below (Nat.le_refl _) (fun k hk q => by omega)) HO4.out) ?_; rintro e w7 ⟨g7, rfl, q7⟩; have FIN := hid q7; clear q7; dsimp only))
 all_goals
  clear k0 k1 k2 k0a k1a HPK
  go_wp2
  go_ret
  exact ⟨g7, rfl, FIN.out⟩
end Go.Proofs.YtlefjidbpjkhlaaGreat
