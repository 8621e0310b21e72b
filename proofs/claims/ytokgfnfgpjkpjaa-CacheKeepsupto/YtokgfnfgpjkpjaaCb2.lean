/-
  Package cache: Read that is refused; Read of any block.
-/
import Derived.Test.YtokgfnfgpjkpjaaCb1
namespace Go.Proofs.Ytokgfnfgpjkpjaa
open Go.RowKit Go.ChangeMaps

theorem CD.below {X Y : Nat → Prop} {w w' : World} {c p room : Nat} {hi mi : Int} {l : List (Int × List Int)} {img : List Int} {puts : List (Nat × List Int)} {fu : Int} {off : Bool} {nb : Nat} (h : CD X Y w c p room hi mi l img puts fu off nb) (b : Below w.heap.size w w') : ∃ X' Y', CD X' Y' w' c p room hi mi l img puts fu off nb ∧ Grown X Y X' Y' w :=
  ⟨_, _, ⟨h.ca.cut.keep (fun k _ hk => b.block k hk), h.dk.cut.below b, fun k q q' => h.dj k q.1 q'.1⟩, fun _ _ => ⟨fun q => q.1, fun q => q.1⟩⟩
set_option maxRecDepth 100000 in
set_option maxHeartbeats 4000000 in
theorem CRead_bad {X Y : Nat → Prop} {w : World} {c p room : Nat} {hi mi : Int} {l : List (Int × List Int)} {img : List Int} {puts : List (Nat × List Int)} {fu : Int} {off : Bool} {nb : Nat} (h : CD X Y w c p room hi mi l img puts fu off nb) (hl : puts.length ≤ 1073741824) {x : Int} (hwf : (Lit.int .i64 x).wf = true) (hx : ∀ q ∈ l, q.1 ≠ x) (hz : (readR img puts off nb x).1 ≠ 0) :
    Calls Try.prog 8 #[.pointer (some ⟨c, 0, none⟩), .int .i64 x] w fun q w' => q = .returned (.tuple #[.slice none 0 0, .int .i64 (readR img puts off nb x).1]) ∧ Below w.heap.size w w' := by
  have HR := hid (Read_any h.dk x hl)
  generalize (readR img puts off nb x).2 = zs at *
  generalize (readR img puts off nb x).1 = cd at *
  obtain ⟨r, mp, n, es, f, Z, h1, hlv, _⟩ := h.ca
  obtain ⟨D, hm, hBM⟩ := h1.map
  have hkey : keyOf Try.prog 3 (.int .i64 x) = some (.int .i64 x) := Maps.keyOf_int_mk Try.underlying3 hwf
  have hhas := hBM.miss x (fun e he => hx ((f e).at_, Z e) (by rw [hlv]; unfold view; exact List.mem_map.2 ⟨e, he, rfl⟩))
  obtain ⟨x0, x1, x2, x3, x4, x5⟩ := h1.blk.cells
  clear h hBM h1 hx hlv
  go_enter Try.func8, Try.ntmps8
  go_wp2_with (at_lookup; refine wpList_lookup_own_ok _ rfl _ _ 46 rfl 3 45 law3 Try.underlying46 ptrElem (zero45 _) .nil [] rfl mp n D rfl hm _ _ rfl hkey ?_; intro v ps hv; clear hv; rw [hhas])
  refine Calls.mono HR.out ?_
  rintro q w1 ⟨al, cp, rfl, hal, b1⟩
  have FIN := hid b1
  clear b1 hal HR
  go_wp2
  go_ret2
  exact ⟨rfl, FIN.out⟩
set_option maxRecDepth 100000 in
set_option maxHeartbeats 4000000 in
theorem CRead_off {X Y : Nat → Prop} {w : World} {c p room r mp n : Nat} {hi mi : Int} {es : List Nat} {e : Nat} {f : Nat → En} {Z : Nat → List Int} {img : List Int} {puts : List (Nat × List Int)} {fu : Int} {nb : Nat} (h : Ca Y w c p room r mp n hi mi es f Z) (he : e ∈ es) (hD : Dk X w p img puts fu true nb) (hl : puts.length ≤ 1073741824) (hat : (Lit.int .i64 (f e).at_).wf = true) :
    Calls Try.prog 8 #[.pointer (some ⟨c, 0, none⟩), .int .i64 (f e).at_] w fun q w' => q = .returned (.tuple #[.slice none 0 0, .int .i64 24]) ∧ Below w.heap.size w w' := by
  obtain ⟨D, hm, hBM⟩ := h.map
  have hkey : keyOf Try.prog 3 (.int .i64 (f e).at_) = some (.int .i64 (f e).at_) := Maps.keyOf_int_mk Try.underlying3 hat
  obtain ⟨hhas, hatk⟩ := hBM.hit e he
  obtain ⟨x0, x1, x2, x3, x4, x5⟩ := h.blk.cells
  have HO := hid (On_any hD)
  have hcl := h.blk.lt
  have H := hid hD
  generalize hxx : (f e).at_ = x at *
  clear h hBM hD
  go_enter Try.func8, Try.ntmps8
  go_wp2_with (at_lookup; refine wpList_lookup_own_ok _ rfl _ _ 46 rfl 3 45 law3 Try.underlying46 ptrElem (zero45 _) .nil [] rfl mp n D rfl hm _ _ rfl hkey ?_; intro v ps hv; rw [hatk .nil] at hv; obtain rfl := ptrElem_inv hv; rw [hhas])
  refine Calls.mono HO.out ?_
  rintro q w1 ⟨rfl, b1⟩
  have HR := hid (Read_any (H.out.below b1) x hl)
  have hrr : readR img puts true nb x = (24, []) := rfl
  rw [hrr] at HR
  have y0 : w1.cell? ⟨c, 0, none⟩ = some (.pointer (some ⟨p, 0, none⟩)) := (World.cell?_of_block (w := w) (b1.block c hcl)).trans x0
  have K := hid b1
  clear b1
  go_wp2_with fail
  refine Calls.mono HR.out ?_
  rintro q w2 ⟨al, cp, rfl, hal, b2⟩
  have FIN := hid (K.out.trans (b2.mono K.out.size))
  clear b2 hal HR K
  go_wp2
  go_ret2
  exact ⟨rfl, FIN.out⟩

end Go.Proofs.Ytokgfnfgpjkpjaa
