import Derived.Test.YthfojpcibnfmgaaGreatG13
set_option maxRecDepth 100000
set_option maxHeartbeats 16000000
namespace Go.Proofs.YthfojpcibnfmgaaGreat
open Go.RowKit
def headAt (fr bl:Nat) (zs:List Int):Option (Nat × Nat) :=
 match unZ zs with
 | some (k,l,body)=> if k = 2 then match hdZ body with
  | some (f,b,q)=> if f = (fr:Int) /\ b = (bl:Int) then some (l.toNat,q.toNat) else none
  | none=> none else none
 | none=> none
theorem head_cases {w:World} {zs:List Int} {v:Value} {life:Int} (fr bl:Nat) (h:RecP w (unZ zs) v life) :
  (headAt fr bl zs = none /\ ((∃ u,v = .iface 207 u) \/ (∃ u,v = .iface 208 u) \/ v = .nilIface)) \/ ∃ f b q:Int,v = .iface 215 (.agg #[.int .i64 f,.int .i64 b,.int .i64 q]) /\ 0 <= life /\ life <= 1099511627776 /\ (0 <= q /\ q <= 1099511627776) /\ headAt fr bl zs = if f = (fr:Int) /\ b = (bl:Int) then some (life.toNat,q.toNat) else none:=by
 unfold headAt
 cases hz:unZ zs with
 | none=>
  rw [hz] at h
  exact .inl ⟨rfl,.inr (.inr h.1)⟩
 | some r=>
  obtain ⟨k,l,body⟩:=r
  rw [hz] at h
  obtain ⟨rfl,hv,hb,_,h0,h1⟩:=h
  rcases hv with ⟨rfl,rfl⟩ | ⟨rfl,g,rfl,_⟩ | ⟨rfl,g,rfl,_⟩ | ⟨h2,h3,h4,rfl⟩
  ·cases hh:hdZ body with
   | none=> exact .inl ⟨by simp [hh],.inr (.inr (by simp [hdV]))⟩
   | some t=>
    obtain ⟨f,b,q⟩:=t
    refine .inr ⟨f,b,q,by simp [hdV],h0,h1,?_,by simp [hh]⟩
    unfold hdZ at hh
    split at hh
    ·rename_i q1
     injection hh with hh
     injection hh with _ hh
     injection hh with _ hh
     rw [<- hh]
     exact ⟨Pl.num_nonneg (Pl.isB_take (Pl.isB_drop hb _) _),q1.2⟩
    ·cases hh
  ·exact .inl ⟨by simp,.inl ⟨_,rfl⟩⟩
  ·exact .inl ⟨by simp,.inr (.inl ⟨_,rfl⟩)⟩
  ·exact .inl ⟨by simp [h2],.inr (.inr rfl)⟩
theorem assert145 (u:Value) (w:World):Sem.run Tryz.prog (Instr.typeAssert (.iface 207 u) 204 215 true) w = .ok (.tuple #[.agg #[.int .i64 0,.int .i64 0,.int .i64 0],.bool false]) w:=by kernel_rfl
theorem assert146 (u:Value) (w:World):Sem.run Tryz.prog (Instr.typeAssert (.iface 208 u) 204 215 true) w = .ok (.tuple #[.agg #[.int .i64 0,.int .i64 0,.int .i64 0],.bool false]) w:=by kernel_rfl
theorem assertNil (w:World):Sem.run Tryz.prog (Instr.typeAssert .nilIface 204 215 true) w = .ok (.tuple #[.agg #[.int .i64 0,.int .i64 0,.int .i64 0],.bool false]) w:=by kernel_rfl
theorem assert143 (u:Value) (w:World):Sem.run Tryz.prog (Instr.typeAssert (.iface 215 u) 204 215 true) w = .ok (.tuple #[u,.bool true]) w:=by kernel_rfl
theorem cell_set_ne {w:World} {k j t t':Nat} (h:¬ k = j) (v:Value):(w.setCell ⟨j,t,none⟩ v).cell? ⟨k,t',none⟩ = w.cell? ⟨k,t',none⟩:=World.cell?_of_block (Below.heap_setCell _ _ _ _ h)
theorem two_34 {w:World} {j c:Nat} {fr bl life seq used:Int} {mv:Value} (h:Jb w j c fr bl life seq used mv) (l q:Int):Jb ((w.drew.drew.setCell ⟨j,3,none⟩ (.int .i64 l)).setCell ⟨j,4,none⟩ (.int .i64 q)) j c fr bl l q used mv:=by
 have h0:Jb w.drew.drew j c fr bl life seq used mv:=h
 have h1:Jb (w.drew.drew.setCell ⟨j,3,none⟩ (.int .i64 l)) j c fr bl l seq used mv:=by simpa [Jb] using h0.set 3 (.int .i64 l)
 simpa [Jb] using h1.set 4 (.int .i64 q)
def FindP (Z:Nat -> Prop) (w:World) (j c p room nb K fr bl:Nat) (d:Pd) (o:Option Js) (e:Ending) (w':World):Prop :=
 match o with
 | none=> e = .returned (.int .i64 41) /\ (∃ Z' s',Jq Z' w' j c p room nb K fr bl d s' /\ Gr Z Z' w) /\ But Z w w'
 | some s'=> e = .returned (.int .i64 0) /\ (∃ Z',Jq Z' w' j c p room nb K fr bl d s' /\ Gr Z Z' w) /\ But Z w w'
theorem findHead_any {Z:Nat -> Prop} {w:World} {j c p room nb K fr bl:Nat} {d:Pd} {s:Js} (h:Jq Z w j c p room nb K fr bl d s) (hn:Jn nb fr bl s) (hl:d.puts.length <= 1073741824) (hon:d.off = false) :
  Calls Tryz.prog 114 #[.pointer (some ⟨j,0,none⟩)] w (FindP Z w j c p room nb K fr bl d ((headAt fr bl (d.read fr)).map fun r=> ⟨r.1,r.2,s.used,s.ah⟩)):=by
 obtain ⟨o,ho⟩:∃ o,o = (headAt fr bl (d.read fr)).map fun r=> (⟨r.1,r.2,s.used,s.ah⟩:Js):=⟨_,rfl⟩
 rw [<- ho]
 have HO:=hid ho
 clear ho
 have hfit:=hn.fit
 have hlo:=hn.lo
 obtain ⟨mv,hJ,hZj⟩:=h.cells
 have j1:=hJ.cell 1
 simp at j1
 have HR:=hid (readRecord_any h hl hon fr (by omega))
 have HJ:=hid h
 clear hJ h hl hn hfit hlo hon
 go_enter Tryz.func114,Tryz.ntmps114
 go_wp2_with fail
 refine Calls.mono HR.out ?_
 rintro e w1 ⟨v,life,rfl,hrec,b1⟩
 have B1:=hid b1
 have hJ1:=HJ.out.cut.below b1
 have HJ1:=hid hJ1
 obtain ⟨mv1,hJb1,_⟩:=hJ1.cells
 have k1:=hJb1.cell 1
 have k2:=hJb1.cell 2
 have k3:=hJb1.cell 3
 have k4:=hJb1.cell 4
 have f3:=hJb1.frozen 3
 have f4:=hJb1.frozen 4
 simp at k1 k2 k3 k4
 have FN:Hid (∀ w',Below w1.heap.size w1 w' -> FindP Z w j c p room nb K fr bl d none (.returned (.int .i64 41)) w'):=fun w' b=> ⟨rfl,⟨_,s,HJ1.out.below b,fun k _ q=> q.1⟩,But.of_below (B1.out.trans (b.mono B1.out.size))⟩
 have hc:=head_cases fr bl hrec
 clear hrec b1 hJ1 HR j1
 rcases hc with ⟨hnone,⟨u,rfl⟩ | ⟨u,rfl⟩ | rfl⟩ | ⟨f,b,q,rfl,l0,l1,q1,heq⟩
 ·have hoN:o = none:=by rw [HO.out,hnone]; rfl
  subst hoN
  clear hJb1 hnone HO
  go_wp2_with (simp only [assert145])
  go_region
  all_goals
   go_wp2
   go_ret
   exact FN.out _ (by simpa using ((Below.refl w1.heap.size w1).alloc (Nat.le_refl _) (.cells #[.int .i64 0,.int .i64 0,.int .i64 0] 215)).drew)
 ·have hoN:o = none:=by rw [HO.out,hnone]; rfl
  subst hoN
  clear hJb1 hnone HO
  go_wp2_with (simp only [assert146])
  go_region
  all_goals
   go_wp2
   go_ret
   exact FN.out _ (by simpa using ((Below.refl w1.heap.size w1).alloc (Nat.le_refl _) (.cells #[.int .i64 0,.int .i64 0,.int .i64 0] 215)).drew)
 ·have hoN:o = none:=by rw [HO.out,hnone]; rfl
  subst hoN
  clear hJb1 hnone HO
  go_wp2_with (simp only [assertNil])
  go_region
  all_goals
   go_wp2
   go_ret
   exact FN.out _ (by simpa using ((Below.refl w1.heap.size w1).alloc (Nat.le_refl _) (.cells #[.int .i64 0,.int .i64 0,.int .i64 0] 215)).drew)
 ·obtain ⟨Zc,m,n,D,a,hW⟩:=HJ1.out
  obtain ⟨w2,hw2⟩:∃ w2,w2 = w1.alloc (.cells #[.int .i64 f,.int .i64 b,.int .i64 q] 215):=⟨_,rfl⟩
  have b2:Below w1.heap.size w1 w2:=by rw [hw2]; exact (Below.refl _ _).alloc (Nat.le_refl _) _
  have hW2:=hW.keep (w':=w2) (fun x _ hx=> b2.block x hx) b2.size
  have m0:w2.cell? ⟨w1.heap.size,0,none⟩ = some (.int .i64 f):=by rw [hw2]; exact cell_new rfl 0 _ rfl
  have m1:w2.cell? ⟨w1.heap.size,1,none⟩ = some (.int .i64 b):=by rw [hw2]; exact cell_new rfl 1 _ rfl
  have m2:w2.cell? ⟨w1.heap.size,2,none⟩ = some (.int .i64 q):=by rw [hw2]; exact cell_new rfl 2 _ rfl
  have hjl:=hW.jb.lt
  have i1:=hW2.jb.cell 1
  have i2:=hW2.jb.cell 2
  have i3:=hW2.jb.cell 3
  have i4:=hW2.jb.cell 4
  have g3:=hW2.jb.frozen 3
  have g4:=hW2.jb.frozen 4
  simp at i1 i2 i3 i4
  have HS:Hid (∀ w',But (fun k=> k = j) w2 w' -> Jb w' j c fr bl life q s.used (.map (some m)) -> FindP Z w j c p room nb K fr bl d (some ⟨life.toNat,q.toNat,s.used,s.ah⟩) (.returned (.int .i64 0)) w'):=fun w' hb hJ=> by
   have h2:=hW2.rejb (s':=⟨life.toNat,q.toNat,s.used,s.ah⟩) hb (by
    show Jb w' j c fr bl ((life.toNat:Nat):Int) ((q.toNat:Nat):Int) s.used (.map (some m))
    rw [Int.toNat_of_nonneg l0,Int.toNat_of_nonneg q1.1]
    exact hJ) rfl
   have hs1:=B1.out.size
   exact ⟨rfl,⟨_,⟨Zc,m,n,D,a,h2⟩,fun k _ r=> r.1⟩,(But.of_below (B1.out.trans (b2.mono B1.out.size))).comp hb (fun k _ r=> by rw [r]; exact hW.zj.1)⟩
  have HJB:=hid hW2.jb
  have HE:=hid heq
  have QQ:=hid (And.intro b2 (And.intro l0 (And.intro l1 q1)))
  clear hJb1 heq hW hW2 k1 k2 k3 k4 f3 f4 b2 HJ HJ1 B1 l0 l1 q1 hZj
  by_cases he:f = (fr:Int) /\ b = (bl:Int)
  ·have hoS:o = some ⟨life.toNat,q.toNat,s.used,s.ah⟩:=by rw [HO.out,HE.out,if_pos he]; rfl
   subst hoS
   obtain ⟨rfl,rfl⟩:=he
   clear HO HE FN
   go_wp2_with (simp only [assert143])
   rw [<- hw2]
   go_region_held3 (fun w'=> w'.cell? ⟨w1.heap.size,0,none⟩ = some (.int .i64 (fr:Int)) /\ w'.cell? ⟨w1.heap.size,1,none⟩ = some (.int .i64 (bl:Int)) /\ w'.cell? ⟨j,1,none⟩ = some (.int .i64 (fr:Int)) /\ w'.cell? ⟨j,2,none⟩ = some (.int .i64 (bl:Int))) (first | (exact ⟨by assumption,by assumption,by assumption,by assumption⟩) | go_keep) (fail)
   have hne:¬ w1.heap.size = j:=by omega
   clear m0 m1 i1 i2 hw2
   go_wp2_with fail
   go_region_held3 (fun w'=> w'.cell? ⟨w1.heap.size,2,none⟩ = some (.int .i64 q)) (first | assumption | (exact (cell_set_ne hne _).trans m2) | (exact ((cell_set_ne hne _).trans (cell_set_ne hne _)).trans m2) | go_keep) (fail)
   all_goals
    go_wp2
    go_ret
    refine HS.out _ ?_ ?_
    ·first
      | exact (((But.refl (fun y=> y = j) w2).drew.drew).setCell (p:=⟨j,3,none⟩) (show (fun y=> y = j) j from rfl) _).setCell (p:=⟨j,4,none⟩) (show (fun y=> y = j) j from rfl) _
      | exact (((But.refl (fun y=> y = j) w2).drew.drew).setCell (p:=⟨j,4,none⟩) (show (fun y=> y = j) j from rfl) _).setCell (p:=⟨j,3,none⟩) (show (fun y=> y = j) j from rfl) _
    ·first
      | exact two_34 HJB.out life q
      | exact two_43 HJB.out life q
  ·by_cases hf:f = (fr:Int)
   ·have hb:¬ b = (bl:Int):=fun r=> he ⟨hf,r⟩
    have hoN:o = none:=by rw [HO.out,HE.out,if_neg he]; rfl
    subst hoN
    clear HO HE he HS HJB
    subst hf
    go_wp2_with (simp only [assert143])
    rw [<- hw2]
    go_region_held3 (fun w'=> w'.cell? ⟨w1.heap.size,0,none⟩ = some (.int .i64 (fr:Int)) /\ w'.cell? ⟨w1.heap.size,1,none⟩ = some (.int .i64 b) /\ w'.cell? ⟨j,1,none⟩ = some (.int .i64 (fr:Int)) /\ w'.cell? ⟨j,2,none⟩ = some (.int .i64 (bl:Int))) (first | (exact ⟨by assumption,by assumption,by assumption,by assumption⟩) | go_keep) (fail)
    go_wp2
    go_ret
    exact FN.out _ (by simpa using QQ.out.1.drew)
   ·have hoN:o = none:=by rw [HO.out,HE.out,if_neg he]; rfl
    subst hoN
    clear HO HE he HS HJB
    go_wp2_with (simp only [assert143])
    rw [<- hw2]
    go_region_held3 (fun w'=> w'.cell? ⟨w1.heap.size,0,none⟩ = some (.int .i64 f) /\ w'.cell? ⟨w1.heap.size,1,none⟩ = some (.int .i64 b) /\ w'.cell? ⟨j,1,none⟩ = some (.int .i64 (fr:Int)) /\ w'.cell? ⟨j,2,none⟩ = some (.int .i64 (bl:Int))) (first | (exact ⟨by assumption,by assumption,by assumption,by assumption⟩) | go_keep) (fail)
    go_wp2
    go_ret
    exact FN.out _ (by simpa using QQ.out.1.drew)
open Go.RowKit
structure Pm where
 at_:Int
 ad:Option Addr
 cap:Nat
 data:List Int
def Pm.val (p:Pm):Value:=.agg #[.int .i64 p.at_,.slice p.ad p.data.length p.cap]
def RdP (X:Nat -> Prop) (w:World) (a:Option Addr) (ps:List Pm):Prop :=
 (∀ p ∈ ps,RdN X w p.ad p.data.length p.data) /\ (ps = [] \/ ∃ b off,a = some ⟨b,off,none⟩ /\ b < w.heap.size /\ ¬ X b /\ ∀ t p,ps[t]? = some p -> w.cell? ⟨b,off + t * 2,none⟩ = some (.int .i64 p.at_) /\ w.cell? ⟨b,off + t * 2 + 1,none⟩ = some (.slice p.ad p.data.length p.cap))
theorem RdP.but {X Y:Nat -> Prop} {w w':World} {a:Option Addr} {ps:List Pm} (h:RdP X w a ps) (hb:But Y w w') (hy:∀ k,k < w.heap.size -> Y k -> X k) (X':Nat -> Prop) (hx:∀ k,k < w.heap.size -> X' k -> X k):RdP X' w' a ps:=by
 obtain ⟨h1,h2⟩:=h
 refine ⟨fun p hp=> ?_,?_⟩
 ·obtain ⟨q1,q2,q3⟩:=h1 p hp
  refine ⟨q1,q2,?_⟩
  rcases q3 with q3 | ⟨b,off,q4,q5,q6,q7⟩
  ·exact .inl q3
  ·exact .inr ⟨b,off,q4,Nat.lt_of_lt_of_le q5 hb.size,fun q=> q6 (hx b q5 q),fun t ht=> (hb.cell (p:=⟨b,off + t,none⟩) q5 (fun q=> q6 (hy b q5 q))).trans (q7 t ht)⟩
 ·rcases h2 with h2 | ⟨b,off,q4,q5,q6,q7⟩
  ·exact .inl h2
  ·refine .inr ⟨b,off,q4,Nat.lt_of_lt_of_le q5 hb.size,fun q=> q6 (hx b q5 q),fun t p hp=> ?_⟩
   obtain ⟨c1,c2⟩:=q7 t p hp
   exact ⟨(hb.cell (p:=⟨b,off + t * 2,none⟩) q5 (fun q=> q6 (hy b q5 q))).trans c1,(hb.cell (p:=⟨b,off + t * 2 + 1,none⟩) q5 (fun q=> q6 (hy b q5 q))).trans c2⟩
def putC (nb fr bl:Nat) (at_:Int) (n:Nat):Int:=if homeC nb fr bl at_ ≠ 0 then homeC nb fr bl at_ else if n ≠ 512 then 43 else 0
theorem putC_zero {nb fr bl:Nat} {at_:Int} {n:Nat} (h:putC nb fr bl at_ n = 0):n = 512 /\ 0 <= at_ /\ at_ < nb /\ ¬ ((fr:Int) <= at_ /\ at_ < fr + bl):=by
 unfold putC at h
 by_cases hh:homeC nb fr bl at_ = 0
 ·rw [if_neg (fun q=> q hh)] at h
  by_cases hn:n = 512
  ·refine ⟨hn,?_⟩
   unfold homeC at hh
   by_cases q:at_ < 0 \/ (nb:Int) <= at_ \/ ((fr:Int) <= at_ /\ at_ < fr + bl)
   ·rw [if_pos q] at hh
    cases hh
   ·exact ⟨by omega,by omega,fun r=> q (.inr (.inr r))⟩
  ·rw [if_pos hn] at h
   cases h
 ·rw [if_pos hh] at h
  exact absurd h hh
theorem checkPut_any {Z:Nat -> Prop} {w:World} {j c p room nb K fr bl:Nat} {d:Pd} {s:Js} (h:Jq Z w j c p room nb K fr bl d s) (h1:fr + bl <= nb) (at_:Int) (ad:Option Addr) (n cp:Nat) :
  Calls Tryz.prog 101 #[.pointer (some ⟨j,0,none⟩),.agg #[.int .i64 at_,.slice ad n cp]] w fun e w'=> e = .returned (.int .i64 (putC nb fr bl at_ n)) /\ Below w.heap.size w w':=by
 obtain ⟨w1,hw1⟩:∃ w1,w1 = w.alloc (.cells #[.int .i64 at_,.slice ad n cp] 184):=⟨_,rfl⟩
 have b1:Below w.heap.size w w1:=by rw [hw1]; exact (Below.refl _ _).alloc (Nat.le_refl _) _
 have hnb:=h.fits.2.2
 have hJ1:=h.below b1
 obtain ⟨mv,hJ,_⟩:=hJ1.cells
 obtain ⟨hD,c0,hcl⟩:=hJ1.dk
 have HH:=hid (jcheckHome_any hJ c0 hD (by omega) (by omega) (by omega) (by omega) at_)
 have B1:=hid b1
 have z1:w1.heap.size = w.heap.size + 1:=by rw [hw1]; simp
 have m1:w1.cell? ⟨w.heap.size,1,none⟩ = some (.slice ad n cp):=by rw [hw1]; exact cell_new rfl 1 _ rfl
 have hz:=hid z1
 clear hJ hJ1 hD c0 hcl b1 h h1 hnb z1
 unfold putC
 generalize homeC nb fr bl at_ = hc at *
 by_cases e1:hc = 0
 ·subst e1
  by_cases e2:n = 512
  ·subst e2
   go_enter Tryz.func101,Tryz.ntmps101
   go_wp2_with fail
   rw [<- hw1]
   refine Calls.mono HH.out ?_
   rintro e w2 ⟨rfl,b2⟩
   have k1:=(b2.cell (p:=⟨w.heap.size,1,none⟩) (by have:=hz.out; show w.heap.size < _; omega)).trans m1
   have FIN:=hid (B1.out.trans (b2.mono B1.out.size))
   clear b2 HH hw1 B1 m1
   go_wp2
   go_ret
   exact ⟨by simp,FIN.out⟩
  ·have e2':¬ (n:Int) = 512:=by omega
   go_enter Tryz.func101,Tryz.ntmps101
   go_wp2_with fail
   rw [<- hw1]
   refine Calls.mono HH.out ?_
   rintro e w2 ⟨rfl,b2⟩
   have k1:=(b2.cell (p:=⟨w.heap.size,1,none⟩) (by have:=hz.out; show w.heap.size < _; omega)).trans m1
   have FIN:=hid (B1.out.trans (b2.mono B1.out.size))
   clear b2 HH hw1 B1 m1
   go_wp2
   go_ret
   exact ⟨by simp,FIN.out⟩
 ·go_enter Tryz.func101,Tryz.ntmps101
  go_wp2_with fail
  rw [<- hw1]
  refine Calls.mono HH.out ?_
  rintro e w2 ⟨rfl,b2⟩
  have FIN:=hid (B1.out.trans (b2.mono B1.out.size))
  clear b2 HH hw1 B1 m1
  go_wp2
  go_ret
  exact ⟨by simp,FIN.out⟩
open Go.RowKit
def aheadP (ah:Nat -> Option (List Int)) (ps:List (Nat × List Int)):Nat -> Option (List Int):=ps.foldl (fun f q=> fun x=> if x = q.1 then some q.2 else f x) ah
theorem aheadP_snoc (ah:Nat -> Option (List Int)) (ps:List (Nat × List Int)) (q:Nat × List Int):aheadP ah (ps ++ [q]) = fun x=> if x = q.1 then some q.2 else aheadP ah ps x:=by
 unfold aheadP
 rw [List.foldl_append]
 rfl
def Pm.put (p:Pm):Nat × List Int:=(p.at_.toNat,p.data)
theorem mapB_tight {w:World} {mp n:Nat} {D:DataW (Nat × Nat)} (h:w.ownsMap Tryz.prog 3 slElem mp n D):w.ownsMap Tryz.prog 3 slElem mp (Maps.size D) D:=by
 obtain ⟨es,ck,h1,h2,h3,rfl⟩:=h
 exact ⟨es,ck,h1,h2,by simp [Maps.size,length_sorted],rfl⟩
theorem JqW.put {Z Zc:Nat -> Prop} {w w1 w2:World} {j c p room nb K fr bl m n:Nat} {D:DataW (Nat × Nat)} {a:Nat -> Option (Nat × Nat)} {d:Pd} {s:Js} (h:JqW Z Zc w j c p room nb K fr bl m n D a d s) (b1:Below w.heap.size w w1) {x g cp:Nat} {zs:List Int} (hx:x < nb) (hg:w.heap.size <= g) (ho:Own w1 g 512 cp zs) (hz:Pl.isB zs) (hZ:∀ k,Z k -> k < w.heap.size) (hm:w2.ownsMap Tryz.prog 3 slElem m (n + 1) (D.put (.int .i64 (x:Int)) (.held (g,cp)))) (ht:w1.mapTurned w2 m) :
  JqW (fun k=> Z k \/ k = g) Zc w2 j c p room nb K fr bl m (Maps.size (D.put (.int .i64 (x:Int)) (.held (g,cp)))) (D.put (.int .i64 (x:Int)) (.held (g,cp))) (putA a x (g,cp)) d { s with ah:=fun y=> if y = x then some zs else s.ah y }:=by
 have b2:=turned_but ht
 have hml:=mapB_lt h.mp
 have hgm:g ≠ m:=by omega
 have hs1:=b1.size
 have k2:∀ k,k < w.heap.size -> k ≠ m -> w2.heap[k]? = w.heap[k]?:=fun k hk hkm=> (b2.block k (by omega) hkm).trans (b1.block k hk)
 have hjm:=h.jb.ne_map h.mp
 exact {
  cq:=h.cq.keep (fun k q hk=> k2 k hk (fun e=> h.nm (e ▸ q))) (Nat.le_trans b1.size b2.size)
  jb:=(k2 j h.jb.lt hjm).trans h.jb
  mp:=mapB_tight hm
  am:=h.am.put x hx (g,cp)
  dat:=fun y g' cp' hy=> by
   by_cases e:y = x
   ·subst e
    have e2:g = g' /\ cp = cp':=by simpa [putA] using hy
    obtain ⟨rfl,rfl⟩:=e2
    exact ⟨zs,by simp,ho.keep (b2.block g ho.lt hgm),hz,hx,fun q=> by have:=hZ g (h.sub g q); omega,.inr rfl⟩
   ·have hy':a y = some (g',cp'):=by simpa [putA,e] using hy
    obtain ⟨z,h1,h2,h3,h4,h5,h6⟩:=h.dat y g' cp' hy'
    exact ⟨z,by simp [e,h1],h2.keep (k2 g' h2.lt (h2.ne_mapB h.mp)),h3,h4,h5,.inl h6⟩
  non:=fun y hy=> by
   by_cases e:y = x
   ·subst e; simp [putA] at hy
   ·have hy':a y = none:=by simpa [putA,e] using hy
    simp [e,h.non y hy']
  nj:=h.nj
  nm:=h.nm
  zj:=.inl h.zj
  zm:=.inl h.zm
  sub:=fun k q=> .inl (h.sub k q)
  sz:=Nat.le_trans (h.am.put x hx (g,cp)).cnt (cntA_le _ _) }
theorem take_any {Z:Nat -> Prop} {w:World} {j c p room nb K fr bl:Nat} {d:Pd} {s:Js} (h:Jq Z w j c p room nb K fr bl d s) (hsq:s.seq < 1099511627776) (a0:Option Addr) (cp:Nat) (ps:List Pm) (hR:RdP Z w a0 ps) (hp:∀ p ∈ ps,0 <= p.at_ /\ p.at_ < nb /\ p.data.length = 512) (hl:ps.length <= 1073741823) :
  Calls Tryz.prog 107 #[.pointer (some ⟨j,0,none⟩),.slice a0 ps.length cp] w fun e w'=> e = .returned (.tuple #[]) /\ (∃ Z',Jq Z' w' j c p room nb K fr bl d ⟨s.life,s.seq + 1,s.used,aheadP s.ah (ps.map Pm.put)⟩ /\ Gr Z Z' w) /\ But Z w w':=by
 have hnb:=h.fits.2.2
 have HJ:=hid h
 have HR:=hid hR
 have HP:=hid hp
 clear h hR hp
 generalize hN:ps.length = N at *
 go_enter Tryz.func107,Tryz.ntmps107
 go_wp2_with fail
 go_loopw [8] (fun i wr=> ∃ q:Nat,q <= N /\ i = .int .i64 (q:Int) /\ (∃ Z',Jq Z' wr j c p room nb K fr bl d ⟨s.life,s.seq,s.used,aheadP s.ah ((ps.take q).map Pm.put)⟩ /\ Gr Z Z' w /\ RdP Z' wr a0 ps) /\ But Z w wr) (fun i _=> N - (intOf i).toNat)
 case atStart=> exact ⟨0,Nat.zero_le _,rfl,⟨Z,HJ.out,Gr.refl _ _,HR.out⟩,But.refl _ _⟩
 case round=>
  clear HJ HR
  obtain ⟨q,hq,rfl,⟨Z',hJr,hGr,hRr⟩,hBt⟩:=hrel
  by_cases hqn:q < N
  ·have hqn':(q:Int) < (N:Int):=by omega
   obtain ⟨pp,hpp⟩:∃ pp,ps[q]? = some pp:=⟨_,List.getElem?_eq_getElem (by omega)⟩
   obtain ⟨p0,p1,p2⟩:=HP.out pp (List.mem_of_getElem? hpp)
   obtain ⟨bk,off,ha0,hbk,hbZ,hcell⟩:∃ b off,a0 = some ⟨b,off,none⟩ /\ b < wr.heap.size /\ ¬ Z' b /\ ∀ (t:Nat) (p:Pm),ps[t]? = some p -> wr.cell? ⟨b,off + t * 2,none⟩ = some (.int .i64 p.at_) /\ wr.cell? ⟨b,off + t * 2 + 1,none⟩ = some (.slice p.ad p.data.length p.cap):=by
    rcases hRr.2 with e | e
    ·rw [e] at hpp; cases hpp
    ·exact e
   obtain ⟨c1,c2⟩:=hcell q pp hpp
   have hrd:=hRr.1 pp (List.mem_of_getElem? hpp)
   obtain ⟨ada,had⟩:∃ ada,pp.ad = some ada:=by
    rcases hrd.2.2 with e | ⟨b,o,e,_⟩
    ·omega
    ·exact ⟨_,e⟩
   rw [had,p2] at c2
   obtain ⟨x,hx⟩:∃ x:Nat,pp.at_ = (x:Int):=⟨pp.at_.toNat,by omega⟩
   rw [hx] at c1
   obtain ⟨Zc,m,n,D,a,hW⟩:=hJr.cut
   obtain ⟨w2,hw2⟩:∃ w2,w2 = wr.alloc (.cells #[.int .i64 (x:Int),.slice (some ada) 512 pp.cap] 184):=⟨_,rfl⟩
   have b2:Below wr.heap.size wr w2:=by rw [hw2]; exact (Below.refl _ _).alloc (Nat.le_refl _) _
   have z2:w2.heap.size = wr.heap.size + 1:=by rw [hw2]; simp
   have n0:w2.cell? ⟨wr.heap.size,0,none⟩ = some (.int .i64 (x:Int)):=by rw [hw2]; exact cell_new rfl 0 _ rfl
   have n1:w2.cell? ⟨wr.heap.size,1,none⟩ = some (.slice (some ada) 512 pp.cap):=by rw [hw2]; exact cell_new rfl 1 _ rfl
   have hjr:=hW.jb.lt
   have n6:w2.cell? ⟨j,6,none⟩ = some (.map (some m)):=(b2.cell (p:=⟨j,6,none⟩) hjr).trans (hW.jb.cell 6)
   have hrd2:Rd w2.drew.heap.size w2.drew (some ada) 512 pp.data:=by
    have r1:=hrd.rd
    rw [had,p2] at r1
    have r2:=(r1.below b2).mono (B':=w2.heap.size) (by omega)
    exact r2
   have HCl:=hid (Clone_any ada 512 pp.cap pp.data w2.drew (by omega) hrd2)
   have HM:=hid (mapB_keep hW.mp (b2.block m (mapB_lt hW.mp)))
   have hszn:=hW.sz
   have HWF:Hid ((Lit.int .i64 (x:Int)).wf = true):=wf_small (by omega) (by omega)
   have KK:=hid (And.intro hW (And.intro hGr (And.intro hBt (And.intro hRr (And.intro b2 (And.intro hrd.2.1 (And.intro hpp (And.intro hx (And.intro p1 p2)))))))))
   subst ha0
   clear hJr hGr hBt hRr hcell hrd hW b2 hrd2 p0 p1 p2 HP hpp hbZ had hx
   go_wp2_with fail
   rw [<- hw2]
   clear hw2 c1 c2
   refine wp_region_noPanic ?_
   refine wp_region_held_drew (S:=fun w'=> w'.cell? ⟨j,6,none⟩ = some (.map (some m)) /\ w'.cell? ⟨wr.heap.size,0,none⟩ = some (.int .i64 (x:Int)) /\ w'.cell? ⟨wr.heap.size,1,none⟩ = some (.slice (some ada) 512 pp.cap)) (by kernel_rfl) ⟨n6,n0,n1⟩ (fun hSS=> ?_)
   refine wpAnyH_take (i:=0) (v:=?v0) rfl (by kernel_rfl) (by kernel_rfl) (by kernel_rfl) (fun _ _ _ h=> h) (Or.inl ⟨by rfl,?hy0⟩) hSS ?_
   case hy0=> (intro w9 hSw; (try dsimp only at hSw); (try go_split_ands); go_simp; try with_reducible rfl)
   simp only [Act.put,List.setIfInBounds_toArray]
   refine wpAnyH_take (i:=1) (v:=?v1) rfl (by kernel_rfl) (by kernel_rfl) (by kernel_rfl) (fun _ _ _ h=> h) (Or.inl ⟨by rfl,?hy1⟩) hSS ?_
   case hy1=> (intro w9 hSw; (try dsimp only at hSw); (try go_split_ands); go_simp; try with_reducible rfl)
   simp only [Act.put]
   refine wpAnyH_take (i:=2) (v:=?v2) rfl (by kernel_rfl) (by kernel_rfl) (by kernel_rfl) (fun _ _ _ h=> h) (Or.inl ⟨by rfl,?hy2⟩) hSS ?_
   case hy2=> (intro w9 hSw; (try dsimp only at hSw); (try go_split_ands); go_simp; try with_reducible rfl)
   simp only [Act.put]
   refine wpAnyH_take (i:=3) (v:=?v3) rfl (by kernel_rfl) (by kernel_rfl) (by kernel_rfl) (fun _ _ _ h=> h) (Or.inl ⟨by rfl,?hy3⟩) hSS ?_
   case hy3=> (intro w9 hSw; (try dsimp only at hSw); (try go_split_ands); go_simp; try with_reducible rfl)
   simp only [Act.put]
   refine wpAnyH_take (i:=4) (v:=?v4) rfl (by kernel_rfl) (by kernel_rfl) (by kernel_rfl) (fun _ _ _ h=> h) (Or.inl ⟨by rfl,?hy4⟩) hSS ?_
   case hy4=> (intro w9 hSw; (try dsimp only at hSw); (try go_split_ands); go_simp; try with_reducible rfl)
   simp only [Act.put]
   refine wpAnyH_take (i:=5) (v:=?v5) rfl (by kernel_rfl) (by kernel_rfl) (by kernel_rfl) (fun _ _ _ h=> h) (Or.inl ⟨by rfl,?hy5⟩) hSS ?_
   case hy5=> (intro w9 hSw; (try dsimp only at hSw); (try go_split_ands); go_simp; try with_reducible rfl)
   simp only [Act.put]
   refine wpAnyH_take (i:=6) (v:=?v6) rfl (by kernel_rfl) (by kernel_rfl) (by kernel_rfl) (fun _ _ _ h=> h) (Or.inl ⟨by rfl,?hy6⟩) hSS ?_
   case hy6=> (intro w9 hSw; (try dsimp only at hSw); (try go_split_ands); go_simp; try with_reducible rfl)
   simp only [Act.put]
   refine wpAnyH_take (i:=7) (v:=?v7) rfl (by kernel_rfl) (by kernel_rfl) (by kernel_rfl) (fun _ _ _ h=> h) (Or.inl ⟨by rfl,?hy7⟩) hSS ?_
   case hy7=> (intro w9 hSw; (try dsimp only at hSw); (try go_split_ands); go_simp; try with_reducible rfl)
   simp only [Act.put]
   refine wpAnyH_ready (rs:=[8]) (by kernel_rfl) (by simp) (AllReadyH.cons (i:=8) rfl (fun K9 hK9=> ?_) AllReadyH.nil)
   go_simp
   go_at_call 90
   refine Calls.mono HCl.out ?_
   rintro e w3 ⟨g,cp3,rfl,hg,ho,b3⟩
   have b3':Below w2.heap.size w2 w3:=⟨b3.os,b3.tape,b3.output,b3.size,b3.block⟩
   have q6:=(b3'.cell (p:=⟨j,6,none⟩) (Nat.lt_of_lt_of_le hjr (by rw [z2]; omega))).trans n6
   have q0:=(b3'.cell (p:=⟨wr.heap.size,0,none⟩) (by show wr.heap.size < _; rw [z2]; omega)).trans n0
   have q1:=(b3'.cell (p:=⟨wr.heap.size,1,none⟩) (by show wr.heap.size < _; rw [z2]; omega)).trans n1
   have FIN0:=hid (And.intro hg (And.intro ho b3'))
   have HM3:=hid (mapB_keep HM.out (b3'.block m (by have:=mapB_lt HM.out; omega)))
   obtain ⟨w4,hrun,m4,t4⟩:=World.ownsMap.store (w:=w3) HM3.out law3 Tryz.underlying163 (by unfold maxLen; omega) (keyOf3 HWF.out) (val:=.slice (some ⟨g,0,none⟩) 512 cp3) (d:=.held (g,cp3)) (ps:=[]) rfl
   have FIN1:=hid (And.intro m4 t4)
   clear hg ho b3 b3' m4 t4 HM3
   dsimp only
   refine hK9.out _ _ ⟨q6,q0,q1⟩ (fun hSS3=> ?_)
   clear hK9 K9 hSS
   refine wpAnyH_ready (rs:=[9]) (by kernel_rfl) (by simp) (AllReadyH.cons (i:=9) rfl (fun K9 hK9=> ?_) AllReadyH.nil)
   go_simp
   have hmr:=mapB_lt KK.out.1.mp
   have b4:=turned_but FIN1.out.2
   have hs3:=FIN0.out.2.2.size
   have hjm:=KK.out.1.jb.ne_map KK.out.1.mp
   refine hK9.out _ _ ⟨(b4.cell (p:=⟨j,6,none⟩) (by show j < _; omega) hjm).trans q6,(b4.cell (p:=⟨wr.heap.size,0,none⟩) (by show wr.heap.size < _; omega) (by show wr.heap.size ≠ m; omega)).trans q0,(b4.cell (p:=⟨wr.heap.size,1,none⟩) (by show wr.heap.size < _; omega) (by show wr.heap.size ≠ m; omega)).trans q1⟩ (fun hSS4=> ?_)
   clear hK9 K9 hSS3 hSS4 q6 q0 q1 hrun
   refine wpAnyH_done (by kernel_rfl) (NoPanic.normal ?_) _
   obtain ⟨hW,hGr,hBt,hRr,b2,hzb,hpp,hx,p1,p2⟩:=KK.out
   have b13:Below wr.heap.size wr w3:=b2.trans (FIN0.out.2.2.mono b2.size)
   have hO:Own w3 g 512 cp3 pp.data:=FIN0.out.2.1
   have hgr:wr.heap.size <= g:=by have:=FIN0.out.1; have:w2.drew.heap.size = w2.heap.size:=rfl; omega
   have hP:=hW.put (x:=x) b13 (by omega) hgr hO hzb (fun k q=> q.2) FIN1.out.1 FIN1.out.2
   have bb:But (fun k=> k = m) wr w4:=(But.of_below b13).trans b4
   have hzm:=hW.zm
   have hR2:=hRr.but bb (fun k _ e=> by rw [e]; exact hzm.1) (fun k=> (Z' k /\ k < wr.heap.size) \/ k = g) (fun k hk q=> by rcases q with q | q; exact q.1; omega)
   have hah:aheadP s.ah ((ps.take (q + 1)).map Pm.put) = fun y=> if y = x then some pp.data else aheadP s.ah ((ps.take q).map Pm.put) y:=by rw [List.take_add_one,hpp,List.map_append]; show aheadP s.ah ((ps.take q).map Pm.put ++ [pp.put]) = _; rw [aheadP_snoc]; simp [Pm.put,hx]
   have FIN:Hid ((∃ Z2,Jq Z2 w4 j c p room nb K fr bl d ⟨s.life,s.seq,s.used,aheadP s.ah ((ps.take (q + 1)).map Pm.put)⟩ /\ Gr Z Z2 w /\ RdP Z2 w4 (some ⟨bk,off,none⟩) ps) /\ But Z w w4):=⟨⟨_,⟨Zc,m,_,_,_,by rw [hah]; exact hP⟩,fun k hk q=> (by have:=hBt.size; rcases q with q | q; exact hGr k hk q.1; omega),hR2⟩,hBt.comp bb (fun k hk e=> by rw [e]; exact hGr m (by rw [<- e]; exact hk) hzm.1)⟩
   clear hW hGr hBt hRr b2 hzb hpp hx p1 p2 b13 hO hgr hP bb hR2 hah KK FIN0 FIN1 HCl HM HWF hmr b4 hs3 hjm n0 n1 n6 z2 hzm
   go_wp2_with fail
   go_roundw
   case rel=> exact ⟨q + 1,by omega,by go_num,FIN.out.1,FIN.out.2⟩
   case measure=> simp [intOf]; omega
  ·have hqn':¬ (q:Int) < (N:Int):=by omega
   have hqe:ps.take q = ps:=List.take_of_length_le (by omega)
   rw [hqe] at hJr
   obtain ⟨Zc,m,n,D,a,hW⟩:=hJr
   have j4:=hW.jb.cell 4
   have f4:=hW.jb.frozen 4
   simp at j4
   have hwr:IntKind.i64.wrap ((s.seq:Int) + 1) = (s.seq:Int) + 1:=by rw [IntKind.wrap_i64]; omega
   obtain ⟨w2,hw2⟩:∃ w2,w2 = wr.setCell ⟨j,4,none⟩ (.int .i64 ((s.seq:Int) + 1)):=⟨_,rfl⟩
   have J1:Jb w2 j c fr bl s.life ((s.seq:Int) + 1) s.used (.map (some m)):=by rw [hw2]; simpa [Jb] using hW.jb.set 4 (.int .i64 ((s.seq:Int) + 1))
   have bb:But (fun k=> k = j) wr w2:=by rw [hw2]; exact (But.refl (fun y=> y = j) wr).setCell (p:=⟨j,4,none⟩) (show (fun y=> y = j) j from rfl) _
   have hzj:=hW.zj
   have FIN:Hid ((∃ Z2,Jq Z2 w2 j c p room nb K fr bl d ⟨s.life,s.seq + 1,s.used,aheadP s.ah (ps.map Pm.put)⟩ /\ Gr Z Z2 w) /\ But Z w w2):=⟨⟨Z',⟨Zc,m,n,D,a,hW.rejb (s':=⟨s.life,s.seq + 1,s.used,aheadP s.ah (ps.map Pm.put)⟩) bb (by simpa using J1) rfl⟩,hGr⟩,hBt.comp bb (fun k hk e=> by rw [e]; exact hGr j (by rw [<- e]; exact hk) hzj)⟩
   clear hW hGr hBt hRr J1 bb hzj HP hqe
   go_wp2
   go_end0
   rw [<- hw2]
   exact ⟨rfl,FIN.out.1,FIN.out.2⟩
end Go.Proofs.YthfojpcibnfmgaaGreat
