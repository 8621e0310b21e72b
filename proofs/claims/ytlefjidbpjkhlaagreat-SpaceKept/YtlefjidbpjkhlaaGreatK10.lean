import Derived.Test.YtlefjidbpjkhlaaGreatK09
set_option maxRecDepth 100000
set_option maxHeartbeats 16000000
namespace Go.Proofs.YtlefjidbpjkhlaaGreat
variable {Z Z' Zc:Nat->Prop}
variable {w w':World}
variable {K K' bl c f j k m n p q:Nat}
variable {d:Pd}
variable {s s':Js}
variable {mv:Value}
variable {R:World->Prop}
open Go.RowKit
theorem Cq.cut{room nb:Nat}(h:Cq Z w c p room nb K d):Cq (fun k=>Z k/\k<w.heap.size) w c p room nb K d:=by
 obtain⟨X,Y,hi,mi,l,h1,h2,h3,h4,h5,h6,h7⟩:=h
 exact⟨fun k=>X k/\k<w.heap.size,Y,hi,mi,l,⟨h1.ca,h1.dk.cut,fun k q q'=>h1.dj k q q'.1⟩,fun k q=>⟨h2 k q.1,q.2⟩,fun k q=>⟨h3 k q,h4 k q⟩,h4,h5,h6,h7⟩
theorem Jq.cut{room nb fr:Nat}(h:Jq Z w j c p room nb K fr bl d s):Jq (fun k=>Z k/\k<w.heap.size) w j c p room nb K fr bl d s:=by
 obtain⟨Zc,m,n,D,a,h⟩:=h
 refine⟨fun k=>Zc k/\k<w.heap.size,m,n,D,a,h.cq.cut,h.jb,h.mp,h.am,fun x g cp hx=>?_,h.non,fun q=>h.nj q.1,fun q=>h.nm q.1,⟨h.zj,h.jb.lt⟩,⟨h.zm,mapB_lt h.mp⟩,fun k q=>⟨h.sub k q.1,q.2⟩,h.sz⟩
 obtain⟨zs,h1,h2,h3,h4,h5,h6⟩:=h.dat x g cp hx
 exact⟨zs,h1,h2,h3,h4,fun q=>h5 q.1,h6,h2.lt⟩
theorem Jq.mono{room nb fr:Nat}(h:Jq Z w j c p room nb K fr bl d s)(hz:∀k,Z k->Z' k)(hK:K<=K'):Jq Z' w j c p room nb K' fr bl d s:=by
 obtain⟨Zc,m,n,D,a,h⟩:=h
 refine⟨Zc,m,n,D,a,h.cq.mono (fun _ q=>q) hK,h.jb,h.mp,h.am,fun x g cp hx=>?_,h.non,h.nj,h.nm,hz _ h.zj,hz _ h.zm,fun k q=>hz k (h.sub k q),h.sz⟩
 obtain⟨zs,h1,h2,h3,h4,h5,h6⟩:=h.dat x g cp hx
 exact⟨zs,h1,h2,h3,h4,h5,hz _ h6⟩
theorem isB_bare{kind seq:Int}{body:List Int}(h:0<=kind/\kind<256)(hb:Pl.isB body):Pl.isB (bareZ kind seq body):=by
 unfold bareZ
 intro z hz
 rcases List.mem_cons.1 hz with rfl | hz
 ·exact h
 ·rcases List.mem_append.1 hz with hz | hz
  ·exact Pl.isB_dig _ _ z hz
  ·rcases List.mem_append.1 hz with hz | hz
   ·exact Pl.isB_dig _ _ z hz
   ·rcases List.mem_append.1 hz with hz | hz
    ·exact isB_four z hz
    ·rcases List.mem_append.1 hz with hz | hz
     ·exact hb z hz
     ·have:=List.eq_of_mem_replicate hz
      omega
theorem length_bare{kind seq:Int}{body:List Int}(h:body.length<=497):(bareZ kind seq body).length=512:=by
 unfold bareZ
 simp[Pl.dig,zeros]
 omega
theorem length_stampZ{kind seq:Int}{body:List Int}(h:body.length<=497):(stampZ kind seq body).length=512:=by
 unfold stampZ
 rw[length_splice _ _ _ (by rw[length_bare h];simp[Pl.dig]),length_bare h]
theorem isB_stampZ{kind seq:Int}{body:List Int}(h:0<=kind/\kind<256)(hb:Pl.isB body):Pl.isB (stampZ kind seq body):=by
 unfold stampZ splice
 have h1:=isB_bare (seq:=seq) h hb
 intro z hz
 rcases List.mem_append.1 hz with hz | hz
 ·exact h1 z (List.mem_of_mem_take hz)
 ·rcases List.mem_append.1 hz with hz | hz
  ·exact Pl.isB_dig _ _ z hz
  ·exact h1 z (List.mem_of_mem_drop hz)
theorem blankZ_ok(fr bl:Nat):(blankZ fr bl).length=512/\Pl.isB (blankZ fr bl):=⟨length_stampZ (by rw[length_blankB];omega),isB_stampZ (by omega) (isB_packZ _)⟩
theorem headZ_ok(fr bl life seq:Nat):(headZ fr bl life seq).length=512/\Pl.isB (headZ fr bl life seq):=⟨length_stampZ (by rw[length_headB];omega),isB_stampZ (by omega) (isB_packZ _)⟩
def wipes (fr bl from_ count:Nat):List Cmd:=(List.range count).map fun i=>Cmd.wr (from_+i) (blankZ fr bl)
theorem wipes_succ(fr bl from_ q:Nat):wipes fr bl from_ (q+1)=wipes fr bl from_ q++[Cmd.wr (from_+q) (blankZ fr bl)]:=by
 unfold wipes
 rw[List.range_succ,List.map_append]
 rfl
theorem wipes_more{fr from_:Nat}(h:q<=n):∃r,wipes fr bl from_ n=wipes fr bl from_ q++r:=by
 obtain⟨k,rfl⟩:=Nat.exists_eq_add_of_le h
 refine⟨(List.range k).map fun i=>Cmd.wr (from_+(q+i)) (blankZ fr bl),?_⟩
 unfold wipes
 rw[List.range_add,List.map_append,List.map_map]
 rfl
theorem length_wipes(fr bl from_ q:Nat):(wipes fr bl from_ q).length=q:=by simp[wipes]
theorem wipe_any{room nb fr:Nat}(h:Jq Z w j c p room nb K fr bl d s)(h1:fr<=524288)(h2:bl<=524288)(from_ count:Nat)(hft:from_+count<=nb)(hl:d.puts.length+count<=1073741823) :
  Calls Tryz.prog 163 #[.pointer (some ⟨j,0,none⟩),.int .i64 (from_:Int),.int .i64 (count:Int)] w fun e w'=>e=.returned (.int .i64 (d.runs (wipes fr bl from_ count)).1)/\(∃Z',Jq Z' w' j c p room nb K fr bl (d.runs (wipes fr bl from_ count)).2 s/\Gr Z Z' w)/\But Z w w':=by
 have hnb:=h.fits.2.2
 obtain⟨mv,hJ,hZj⟩:=h.cells
 have j0:=hJ.cell 1
 have j1:=hJ.cell 2
 simp at j0 j1
 have HJ:=hid h
 have HB:=hid (stamped_blank h1 h2 w)
 have HL:=hid hl
 clear hJ h hl
 go_enter Tryz.func163,Tryz.ntmps163
 go_wp2_with fail
 refine Calls.mono HB.out ?_
 rintro e w1 ⟨g,rfl,hg,hblk,b1⟩
 have HG:=hid (And.intro hg hblk)
 have HJ1:=hid (HJ.out.cut.below b1)
 have B1:=hid b1
 clear hg hblk b1 HB j0 j1
 go_wp2_with fail
 go_loopw [25] (fun i wr=>∃q:Nat,q<=count/\i=.int .i64 (q:Int)/\(d.runs (wipes fr bl from_ q)).1=0/\(∃Z',Jq Z' wr j c p room nb K fr bl (d.runs (wipes fr bl from_ q)).2 s/\Gr Z Z' w/\RdN Z' wr (some ⟨g,0,none⟩) 512 (blankZ fr bl))/\But Z w wr) (fun i _=>count-(intOf i).toNat)
 case atStart=>exact⟨0,Nat.zero_le _,rfl,rfl,⟨_,HJ1.out,fun k _ q=>q.1,by
   have:=RdN.of_blk (X:=fun k=>Z k/\k<w.heap.size) HG.out.2 (blankZ_ok fr bl).2 (fun q=>by have:=HG.out.1;have:=q.2;omega)
   rwa [show (stampZ 1 0 (blankB fr bl)).length=512 from (blankZ_ok fr bl).1]at this⟩,But.of_below B1.out⟩
 case round=>
  clear HG HJ1 B1
  obtain⟨q,hq,rfl,hz,⟨Z',hJr,hGr,hRr⟩,hBt⟩:=hrel
  by_cases hqn:q<count
  ·have hqn':(q:Int)<(count:Int):=by omega
   have e1:=d.runs_snoc hz (.wr (from_+q) (blankZ fr bl))
   rw[<- wipes_succ]at e1
   have hlen:=d.runs_puts (wipes fr bl from_ q)
   rw[length_wipes]at hlen
   have hl:=HL.out
   have HW:=hid (hJr.write (by omega) (from_+q) (by omega) (some ⟨g,0,none⟩) 512 (blankZ fr bl) hRr)
   rw[<- e1]at HW
   obtain⟨mv',hJb,_⟩:=hJr.cells
   have c0:=hJb.cell 0
   simp at c0
   have KK:=hid (And.intro hGr (And.intro hBt (And.intro hRr hJr.fits.2.2)))
   have hwr:IntKind.i64.wrap ((from_:Int)+(q:Int))=((from_+q:Nat):Int):=by rw[IntKind.wrap_i64];omega
   obtain⟨r,hr⟩:=wipes_more (fr:=fr) (bl:=bl) (from_:=from_) (show q+1<=count by omega)
   have HR:=hid hr
   clear hJb hJr hGr hBt hRr hlen hl e1 hr hz
   go_wp2_with fail
   refine Calls.mono HW.out ?_
   rintro e w2 ⟨rfl,⟨Z2,hJ2,hG2⟩,b2⟩
   have hs:=KK.out.2.1.size
   have b2':But Z w w2:=KK.out.2.1.comp b2 (fun k hk q=>KK.out.1 k hk q)
   have hr2:RdN Z2 w2 (some ⟨g,0,none⟩) 512 (blankZ fr bl):=by
    obtain⟨q1,q2,q3⟩:=KK.out.2.2.1
    refine⟨q1,q2,?_⟩
    rcases q3 with q3 | ⟨b,off,q4,q5,q6,q7⟩
    ·cases q3
    ·exact .inr ⟨b,off,q4,Nat.lt_of_lt_of_le q5 b2.size,fun q=>q6 (hG2 b q5 q),fun t ht=>(b2.cell (by exact q5) (by exact q6)).trans (q7 t ht)⟩
   have FIN:=hid (And.intro hJ2 (And.intro (KK.out.1.trans hG2 hs) (And.intro hr2 b2')))
   clear hJ2 hG2 b2 b2' hr2 HW KK c0 hs
   generalize hcd:d.runs (wipes fr bl from_ (q+1))=rr at *
   obtain⟨code,d'⟩:=rr
   by_cases hc:code=0
   ·subst hc
    go_wp2_with fail
    go_roundw
    case rel=>exact⟨q+1,by omega,by go_num,by rw[hcd],⟨Z2,by rw[hcd];exact FIN.out.1,FIN.out.2.1,FIN.out.2.2.1⟩,FIN.out.2.2.2⟩
    case measure=>simp[intOf];omega
   ·have hst:d.runs (wipes fr bl from_ count)=(code,d'):=by
     rw[HR.out,Pd.runs_stop (by rw[hcd];exact hc),hcd]
    go_wp2
    go_ret
    rw[hst]
    exact⟨rfl,⟨Z2,FIN.out.1,FIN.out.2.1⟩,FIN.out.2.2.2⟩
  ·have hqn':¬(q:Int)<(count:Int):=by omega
   have hqe:q=count:=by omega
   subst hqe
   have FIN:=hid (And.intro hJr (And.intro hGr hBt))
   have HZ:=hid hz
   clear hJr hGr hRr hBt hz
   go_wp2
   go_ret
   rw[HZ.out]
   exact⟨rfl,⟨Z',FIN.out.1,FIN.out.2.1⟩,FIN.out.2.2⟩
open Go.RowKit
theorem writeRecord_of {room nb fr:Nat} (h:Jq Z w j c p room nb K fr bl d s) (hl:d.puts.length<=1073741823) (x:Nat) (hx:x<nb) (rv:Value) (zs:List Int) (hz:zs.length=512) (hb:Pl.isB zs)
  (HS:Calls Tryz.prog 167 #[rv,.int .i64 (s.life:Int)] w fun e w'=>∃g,e=.returned (.tuple #[.slice (some ⟨g,0,none⟩) 512 512,.int .i64 0])/\w.heap.size<=g/\Blk .u8 5 w' g zs/\Below w.heap.size w w') :
  Calls Tryz.prog 136 #[.pointer (some ⟨j,0,none⟩),.int .i64 (x:Int),rv] w fun e w'=>e=.returned (.int .i64 (d.run1 (.wr x zs)).1)/\(∃Z',Jq Z' w' j c p room nb K fr bl (d.run1 (.wr x zs)).2 s/\Gr Z Z' w)/\But Z w w':=by
 obtain⟨mv,hJ,hZj⟩:=h.cells
 have j3:=hJ.cell 3
 simp at j3
 have H:=hid (And.intro h (And.intro hl (And.intro hz hb)))
 have HS1:=hid HS
 clear hJ h hl hz hb HS
 go_enter Tryz.func136,Tryz.ntmps136
 go_wp2_with fail
 refine Calls.mono HS1.out ?_
 rintro e w1 ⟨g,rfl,hg,hblk,b1⟩
 have hJ1:=H.out.1.cut.below b1
 have hR:RdN (fun k=>Z k/\k<w.heap.size) w1 (some ⟨g,0,none⟩) 512 zs:=by
  have:=RdN.of_blk (X:=fun k=>Z k/\k<w.heap.size) hblk H.out.2.2.2 (fun q=>by have:=q.2;omega)
  rwa [H.out.2.2.1]at this
 have HW:=hid (hJ1.write H.out.2.1 x hx (some ⟨g,0,none⟩) 512 zs hR)
 obtain⟨mv',hJb,_⟩:=hJ1.cells
 have c0:=hJb.cell 0
 simp at c0
 have B1:=hid b1
 clear hg hblk b1 HS1 j3 hJ1 hR hJb
 go_wp2_with fail
 refine Calls.mono HW.out ?_
 rintro e w2 ⟨rfl,⟨Z2,hJ2,hG2⟩,b2⟩
 have FIN:Hid ((∃Z',Jq Z' w2 j c p room nb K fr bl (d.run1 (.wr x zs)).2 s/\Gr Z Z' w)/\But Z w w2):=by
  have hs:=B1.out.size
  exact⟨⟨Z2,hJ2,fun k hk q=>(hG2 k (by omega) q).1⟩,(But.of_below B1.out).comp b2 (fun k hk q=>q.1)⟩
 clear hJ2 hG2 b2 HW c0 B1
 go_wp2
 go_ret
 exact⟨rfl,FIN.out⟩
structure Jn (nb fr bl:Nat) (s:Js):Prop where
 lo:16<=bl
 fit:fr+bl<=nb
 nb:nb<=524288
 life:s.life<=1099511627776
 seq:s.seq<=1099511627776
 used:s.used+1<=bl
theorem writeHead_any{room nb fr:Nat}(h:Jq Z w j c p room nb K fr bl d s)(hn:Jn nb fr bl s)(hl:d.puts.length<=1073741823) :
  Calls Tryz.prog 164 #[.pointer (some ⟨j,0,none⟩)] w fun e w'=>e=.returned (.int .i64 (d.run1 (.wr fr (headZ fr bl s.life s.seq))).1)/\(∃Z',Jq Z' w' j c p room nb K fr bl (d.run1 (.wr fr (headZ fr bl s.life s.seq))).2 s/\Gr Z Z' w)/\But Z w w':=by
 obtain⟨mv,hJ,hZj⟩:=h.cells
 have j1:=hJ.cell 1
 have j2:=hJ.cell 2
 have j4:=hJ.cell 4
 simp at j1 j2 j4
 have:=hn.fit
 have:=hn.nb
 have:=hn.lo
 have H:=hid (writeRecord_of (h.keep (w':=w.drew) (fun _ _ _=>rfl) (Nat.le_refl _)) hl fr (by omega) (.iface 233 (.agg #[.int .i64 (fr:Int),.int .i64 (bl:Int),.int .i64 (s.seq:Int)])) (headZ fr bl s.life s.seq) (headZ_ok _ _ _ _).1 (headZ_ok _ _ _ _).2 (stamped_head hn.life (by omega) (by omega) hn.seq _))
 clear hJ h hl hn
 go_enter Tryz.func164,Tryz.ntmps164
 go_wp2_with fail
 go_region_law (first
  | (go_simp;go_at_call 136;refine Calls.mono H.out ?_;rintro e w2 ⟨rfl,⟨Z2,hJ2,hG2⟩,b2⟩;have FIN:=hid (And.intro hJ2 (And.intro hG2 b2));clear hJ2 hG2 b2;dsimp only))
 all_goals
  clear j1 j2 j4 H
  go_wp2
  go_ret
  exact⟨rfl,⟨Z2,FIN.out.1,FIN.out.2.1⟩,⟨FIN.out.2.2.os,FIN.out.2.2.tape,FIN.out.2.2.output,FIN.out.2.2.size,FIN.out.2.2.block⟩⟩
open Go.RowKit
theorem Jb.set{fr bl life seq used:Int}(h:Jb w j c fr bl life seq used mv)(t:Nat)(v:Value):(w.setCell ⟨j,t,none⟩ v).heap[j]?=some (.cells (#[.pointer (some ⟨c,0,none⟩),.int .i64 fr,.int .i64 bl,.int .i64 life,.int .i64 seq,.int .i64 used,mv].setIfInBounds t v) 151 (0,0)):=by
 unfold Jb at h
 simp only[World.setCell,Array.getElem?_modify]
 rw[h]
 simp
theorem JqW.rejb{room nb fr:Nat}{D:DataW (Nat×Nat)}{a:Nat->Option (Nat×Nat)}(h:JqW Z Zc w j c p room nb K fr bl m n D a d s)(hb:But (fun k=>k=j) w w')(hJ:Jb w' j c fr bl s'.life s'.seq s'.used (.map (some m)))(ha:s'.ah=s.ah):JqW Z Zc w' j c p room nb K fr bl m n D a d s' where
 cq:=h.cq.but hb (fun k _ q e=>h.nj (e ▸ q))
 jb:=hJ
 mp:=mapB_keep h.mp (hb.block m (mapB_lt h.mp) (fun e=>h.jb.ne_map h.mp e.symm))
 am:=h.am
 dat:=fun x g cp hx=>by
  obtain⟨zs,h1,h2,h3,h4,h5,h6⟩:=h.dat x g cp hx
  exact⟨zs,by rw[ha];exact h1,h2.keep (hb.block g h2.lt (h2.ne_jb h.jb)),h3,h4,h5,h6⟩
 non:=fun x hx=>by rw[ha];exact h.non x hx
 nj:=h.nj
 nm:=h.nm
 zj:=h.zj
 zm:=h.zm
 sub:=h.sub
 sz:=h.sz
theorem JqW.remap{room nb fr:Nat}{D:DataW (Nat×Nat)}{a:Nat->Option (Nat×Nat)}(h:JqW Z Zc w j c p room nb K fr bl m n D a d s)(hb:But (fun k=>k=j) w w'){m':Nat}(hm':w.heap.size<=m')(hJ:Jb w' j c fr bl s'.life s'.seq s'.used (.map (some m')))(hM:w'.ownsMap Tryz.prog 3 slElem m' 0 (.map []:DataW (Nat×Nat)))(ha:s'.ah=fun _=>none) :
  ∃Z',Jq Z' w' j c p room nb K fr bl d s'/\Gr Z Z' w:=by
 refine⟨fun k=>Z k/\k<w.heap.size\/k=m',⟨fun k=>Zc k/\k<w.heap.size,m',0,.map [],fun _=>none,h.cq.cut.but hb (fun k _ q e=>h.nj (e ▸ q.1)),hJ,hM,AM.nil nb,fun x g cp hx=>(by cases hx),fun x _=>(by rw[ha]),fun q=>h.nj q.1,fun q=>(by omega),.inl ⟨h.zj,h.jb.lt⟩,.inr rfl,fun k q=>.inl ⟨h.sub k q.1,q.2⟩,Nat.zero_le _⟩,fun k hk q=>?_⟩
 rcases q with q | q
 ·exact q.1
 ·omega
def beginS (s:Js):Js:=⟨s.life+1,s.seq,0,fun _=>none⟩
def endS (s:Js):Js:=⟨0,s.seq,s.used,s.ah⟩
theorem beginLife_any{room nb fr:Nat}(h:Jq Z w j c p room nb K fr bl d s)(hn:Jn nb fr bl s)(hlf:s.life<1099511627776)(hl:d.puts.length<=1073741823) :
  Calls Tryz.prog 123 #[.pointer (some ⟨j,0,none⟩)] w fun e w'=>e=.returned (.int .i64 (d.run1 (.wr fr (headZ fr bl (s.life+1) s.seq))).1)/\(∃Z',Jq Z' w' j c p room nb K fr bl (d.run1 (.wr fr (headZ fr bl (s.life+1) s.seq))).2 (beginS s)/\Gr Z Z' w)/\But Z w w':=by
 have hz0:=h.cells
 obtain⟨Zc,m,n,D,a,h⟩:=h
 have j3:=h.jb.cell 3
 have f3:=h.jb.frozen 3
 simp at j3
 obtain⟨w1,hw1⟩:∃w1,w1=w.setCell ⟨j,3,none⟩ (.int .i64 ((s.life:Int)+1)):=⟨_,rfl⟩
 have J1:Jb w1 j c fr bl ((s.life:Int)+1) s.seq s.used (.map (some m)):=by rw[hw1];simpa [Jb] using h.jb.set 3 (.int .i64 ((s.life:Int)+1))
 have j5:=J1.cell 5
 have f5:=J1.frozen 5
 simp at j5
 obtain⟨w2,hw2⟩:∃w2,w2=w1.setCell ⟨j,5,none⟩ (.int .i64 0):=⟨_,rfl⟩
 have J2:Jb w2 j c fr bl ((s.life:Int)+1) s.seq 0 (.map (some m)):=by rw[hw2];simpa [Jb] using J1.set 5 (.int .i64 0)
 have j6:=J2.cell 6
 have f6:=J2.frozen 6
 simp at j6
 have z2:w2.heap.size=w.heap.size:=by rw[hw2,hw1];simp[World.setCell]
 obtain⟨w3,hw3⟩:∃w3,w3=w2.setCell ⟨j,6,none⟩ (.map (some w.heap.size)):=⟨_,rfl⟩
 have J3:Jb w3 j c fr bl ((s.life:Int)+1) s.seq 0 (.map (some w.heap.size)):=by rw[hw3];simpa [Jb] using J2.set 6 (.map (some w.heap.size))
 have z3:w3.heap.size=w.heap.size:=by rw[hw3];simp[World.setCell];omega
 obtain⟨w4,hw4⟩:∃w4,w4=w3.alloc (.map #[] 0):=⟨_,rfl⟩
 have b4:Below w3.heap.size w3 w4:=by rw[hw4];exact (Below.refl _ _).alloc (Nat.le_refl _) _
 have hjl:=h.jb.lt
 have J4:Jb w4 j c fr bl ((s.life:Int)+1) s.seq 0 (.map (some w.heap.size)):=(b4.block j (by omega)).trans J3
 have M4:w4.ownsMap Tryz.prog 3 slElem w.heap.size 0 (.map []:DataW (Nat×Nat)):=by rw[hw4,<- z3];exact World.ownsMap_made w3 Tryz.prog 3 slElem
 have B:But (fun k=>k=j) w w3:=by
  rw[hw3,hw2,hw1]
  exact (((But.refl (fun y=>y=j) w).setCell (p:=⟨j,3,none⟩) (show (fun y=>y=j) j from rfl) _).setCell (p:=⟨j,5,none⟩) (show (fun y=>y=j) j from rfl) _).setCell (p:=⟨j,6,none⟩) (show (fun y=>y=j) j from rfl) _
 have B4:=B.trans (But.of_below b4)
 obtain⟨Z4,hJ4,hG4⟩:=h.remap (s':=beginS s) B4 (Nat.le_refl _) (by simpa [beginS] using J4) M4 rfl
 have HW:=hid (writeHead_any hJ4 (⟨hn.lo,hn.fit,hn.nb,by simp[beginS];omega,hn.seq,by have:=hn.lo;simp[beginS];omega⟩:Jn nb fr bl (beginS s)) hl)
 have K4:=hid (And.intro hG4 (And.intro B4 h.zj))
 have hwr:IntKind.i64.wrap ((s.life:Int)+1)=(s.life:Int)+1:=by rw[IntKind.wrap_i64];omega
 have hmm:=@run_makeMap Tryz.prog
 rw[hw1]at j5 f5
 rw[hw2,hw1]at j6 f6
 clear J1 J2 J3 J4 M4 B B4 hJ4 hG4 b4 z3 h hn hl hz0
 go_enter Tryz.func123,Tryz.ntmps123
 go_wp2_with fail
 rw[<- hw1,<- hw2,<- hw3,<- hw4]
 refine Calls.mono HW.out ?_
 rintro e w5 ⟨rfl,⟨Z5,hJ5,hG5⟩,b5⟩
 have hs:=K4.out.2.1.size
 have FIN:=hid (And.intro hJ5 (And.intro (K4.out.1.trans hG5 hs) ((K4.out.2.1.mono (Y:=Z) (fun k _ q=>by rw[q];exact K4.out.2.2)).comp b5 (fun k hk q=>K4.out.1 k hk q))))
 clear hJ5 hG5 b5 HW K4 j3 j5 j6 f3 f5 f6 hs hw1 hw2 hw3 hw4 z2
 go_wp2
 go_ret
 exact⟨rfl,⟨Z5,FIN.out.1,FIN.out.2.1⟩,FIN.out.2.2⟩
open Go.RowKit
theorem endLives_any{room nb fr:Nat}(h:Jq Z w j c p room nb K fr bl d s)(hn:Jn nb fr bl s)(hl:d.puts.length<=1073741823) :
  Calls Tryz.prog 204 #[.pointer (some ⟨j,0,none⟩)] w fun e w'=>e=.returned (.int .i64 (d.run1 (.wr fr (headZ fr bl 0 s.seq))).1)/\(∃Z',Jq Z' w' j c p room nb K fr bl (d.run1 (.wr fr (headZ fr bl 0 s.seq))).2 (endS s)/\Gr Z Z' w)/\But Z w w':=by
 obtain⟨Zc,m,n,D,a,h⟩:=h
 have j3:=h.jb.cell 3
 have f3:=h.jb.frozen 3
 simp at j3
 obtain⟨w1,hw1⟩:∃w1,w1=w.setCell ⟨j,3,none⟩ (.int .i64 0):=⟨_,rfl⟩
 have J1:Jb w1 j c fr bl 0 s.seq s.used (.map (some m)):=by rw[hw1];simpa [Jb] using h.jb.set 3 (.int .i64 0)
 have B:But (fun k=>k=j) w w1:=by
  rw[hw1]
  exact (But.refl (fun y=>y=j) w).setCell (p:=⟨j,3,none⟩) (show (fun y=>y=j) j from rfl) _
 have z1:w1.heap.size=w.heap.size:=by rw[hw1];simp[World.setCell]
 have hJ1:Jq Z w1 j c p room nb K fr bl d (endS s):=⟨Zc,m,n,D,a,h.rejb (s':=endS s) B (by simpa [endS] using J1) rfl⟩
 have HW:=hid (writeHead_any hJ1 (⟨hn.lo,hn.fit,hn.nb,Nat.zero_le _,hn.seq,hn.used⟩:Jn nb fr bl (endS s)) hl)
 have K4:=hid (And.intro B h.zj)
 have Z1:=hid z1
 clear J1 B hJ1 h hn hl z1
 go_enter Tryz.func204,Tryz.ntmps204
 go_wp2_with fail
 rw[<- hw1]
 refine Calls.mono HW.out ?_
 rintro e w5 ⟨rfl,⟨Z5,hJ5,hG5⟩,b5⟩
 have FIN:=hid (And.intro hJ5 (And.intro (show Gr Z Z5 w from fun k hk q=>hG5 k (by have:=Z1.out;omega) q) ((K4.out.1.mono (Y:=Z) (fun k _ q=>by rw[q];exact K4.out.2)).comp b5 (fun k hk q=>q))))
 clear hJ5 hG5 b5 HW K4 j3 f3 hw1 Z1
 go_wp2
 go_ret
 exact⟨rfl,⟨Z5,FIN.out.1,FIN.out.2.1⟩,FIN.out.2.2⟩
theorem wipeHead_any{room nb fr:Nat}(h:Jq Z w j c p room nb K fr bl d s)(hn:Jn nb fr bl s)(hl:d.puts.length<=1073741822) :
  Calls Tryz.prog 120 #[.pointer (some ⟨j,0,none⟩)] w fun e w'=>e=.returned (.int .i64 (d.runs (wipes fr bl fr 1)).1)/\(∃Z',Jq Z' w' j c p room nb K fr bl (d.runs (wipes fr bl fr 1)).2 s/\Gr Z Z' w)/\But Z w w':=by
 obtain⟨mv,hJ,hZj⟩:=h.cells
 have j1:=hJ.cell 1
 simp at j1
 have:=hn.fit
 have:=hn.nb
 have:=hn.lo
 have HW:=hid (wipe_any h (by omega) (by omega) fr 1 (by omega) (by omega))
 clear hJ h hl hn
 go_enter Tryz.func120,Tryz.ntmps120
 go_wp2_with fail
 refine Calls.mono HW.out ?_
 rintro e w5 ⟨rfl,q⟩
 have FIN:=hid q
 clear q HW j1
 go_wp2
 go_ret
 exact⟨rfl,FIN.out⟩
theorem wipeLog_any{room nb fr:Nat}(h:Jq Z w j c p room nb K fr bl d s)(hn:Jn nb fr bl s)(hl:d.puts.length+bl<=1073741823) :
  Calls Tryz.prog 122 #[.pointer (some ⟨j,0,none⟩)] w fun e w'=>e=.returned (.int .i64 (d.runs (wipes fr bl (fr+1) (bl-1))).1)/\(∃Z',Jq Z' w' j c p room nb K fr bl (d.runs (wipes fr bl (fr+1) (bl-1))).2 s/\Gr Z Z' w)/\But Z w w':=by
 obtain⟨mv,hJ,hZj⟩:=h.cells
 have j1:=hJ.cell 1
 have j2:=hJ.cell 2
 simp at j1 j2
 have h1:=hn.fit
 have h2:=hn.nb
 have h3:=hn.lo
 have hjl:=hid hJ
 have HA:=hid (fun w=>jlogBlock_any (fr:Int) (bl:Int) 0 (by omega) (by omega) (by omega) (by omega) w)
 have HB:=hid (fun w=>jlogRoom_any (fr:Int) (bl:Int) (by omega) (by omega) w)
 have HW:Hid (∀w1,Below w.heap.size w w1->Calls Tryz.prog 163 #[.pointer (some ⟨j,0,none⟩),.int .i64 ((fr:Int)+1),.int .i64 ((bl:Int)-1)] w1 fun e w'=>e=.returned (.int .i64 (d.runs (wipes fr bl (fr+1) (bl-1))).1)/\(∃Z',Jq Z' w' j c p room nb K fr bl (d.runs (wipes fr bl (fr+1) (bl-1))).2 s/\Gr Z Z' w)/\But Z w w'):=fun w1 b1=>by
  have H:=wipe_any (h.cut.below b1) (by omega) (by omega) (fr+1) (bl-1) (by omega) (by omega)
  rw[show ((fr+1:Nat):Int)=(fr:Int)+1 by omega,show ((bl-1:Nat):Int)=(bl:Int)-1 by omega]at H
  refine Calls.mono H ?_
  rintro e w' ⟨rfl,⟨Z',q1,q2⟩,b⟩
  have hs:=b1.size
  exact⟨rfl,⟨Z',q1,fun k hk q=>(q2 k (by omega) q).1⟩,(But.of_below b1).comp b (fun k _ q=>q.1)⟩
 clear hJ h hl hn h1 h2 h3
 go_enter Tryz.func122,Tryz.ntmps122
 go_wp2_with fail
 go_region_law (first
  | (go_simp;go_at_call 137;refine Calls.mono (HA.out _) ?_;rintro e w2 ⟨rfl,b2⟩;have B2:Hid (Below w.heap.size w w2):=⟨b2.os,b2.tape,b2.output,b2.size,b2.block⟩;have k1:=(B2.out.cell (p:=⟨j,1,none⟩) hjl.out.lt).trans j1;have k2:=(B2.out.cell (p:=⟨j,2,none⟩) hjl.out.lt).trans j2;clear b2;dsimp only)
  | (go_simp;go_at_call 135;refine Calls.mono (HB.out _) ?_;rintro e w3 ⟨rfl,b3⟩;have B3:=hid (B2.out.trans (b3.mono B2.out.size));clear b3;dsimp only)
  | (go_simp;go_at_call 163;refine Calls.mono (HW.out _ B3.out) ?_;rintro e w4 ⟨rfl,q⟩;have FIN:=hid q;clear q;dsimp only))
 all_goals
  clear j1 j2 HA HB HW hjl
  go_wp2
  go_ret
  exact⟨rfl,FIN.out⟩
open Go.RowKit
theorem Turn.step{r:Value}{fs:List (Nat×Value)}{Q:Ending->World->Prop}{code:Int}(H:Calls Tryz.prog f #[r] w fun e w'=>e=.returned (.int .i64 code)/\R w')(hk:∀w',R w'->w'.heap[k]?=w.heap[k]?)(hbad:∀w',code≠0->R w'->Q (.returned (.int .i64 code)) w')(hgood:∀w',code=0->R w'->Turn k Q fs w'):Turn k Q ((f,r) :: fs) w:=by
 refine Calls.mono H ?_
 rintro e w' ⟨rfl,h⟩
 exact⟨code,rfl,fun q=>hbad w' q h,fun q=>⟨hk w' h,hgood w' q h⟩⟩
def noS:Js:=⟨0,0,0,fun _=>none⟩
def layC (d:Pd) (nb:Nat) (fr bl:Int):Int:=if d.off then 24 else placeC nb fr bl
theorem placeC_zero{nb:Nat}{fr bl:Int}(h:placeC nb fr bl=0):∃f b:Nat,fr=f/\bl=b/\16<=b/\f+b<=nb:=by
 unfold placeC at h
 split at h
 ·cases h
 ·split at h
  ·cases h
  ·exact⟨fr.toNat,bl.toNat,by omega,by omega,by omega,by omega⟩
def LayP (Z:Nat->Prop) (w w':World) (c p room nb K:Nat) (d:Pd) (fr bl:Int) (code:Int) (jv:Option Addr):Prop :=
 (code≠0/\jv=none)\/(code=0/\∃j f b:Nat,jv=some ⟨j,0,none⟩/\fr=f/\bl=b/\16<=b/\f+b<=nb/\w.heap.size<=j/\∃Z',Jq Z' w' j c p room nb K f b d noS/\Gr Z Z' w)
theorem lay_ready(c:Nat)(fr bl:Int){w4:World}(e:w4=(((w.alloc (.cells #[.int .i64 fr,.int .i64 bl] 148)).alloc (.map #[] 0)).alloc (.cells #[.pointer (some ⟨c,0,none⟩),.int .i64 fr,.int .i64 bl,.int .i64 0,.int .i64 0,.int .i64 0,.map (some (w.heap.size+1))] 151)).alloc (.cells #[.func (.func 76) #[.pointer (some ⟨w.heap.size+2,0,none⟩)] #[],.func (.func 162) #[.pointer (some ⟨w.heap.size+2,0,none⟩)] #[]] 42)) :
  Below w.heap.size w w4/\w4.heap.size=w.heap.size+4/\Jb w4 (w.heap.size+2) c fr bl 0 0 0 (.map (some (w.heap.size+1)))/\w4.ownsMap Tryz.prog 3 slElem (w.heap.size+1) 0 (.map []:DataW (Nat×Nat))/\(∀i f,[((76:Nat),Value.pointer (some ⟨w.heap.size+2,0,none⟩)),(162,Value.pointer (some ⟨w.heap.size+2,0,none⟩))][i]?=some f->w4.cell? ⟨w.heap.size+3,i,none⟩=some (.func (.func f.1) #[f.2] #[])):=by
 obtain⟨w1,hw1⟩:∃w1,w1=w.alloc (.cells #[.int .i64 fr,.int .i64 bl] 148):=⟨_,rfl⟩
 obtain⟨w2,hw2⟩:∃w2,w2=w1.alloc (.map #[] 0):=⟨_,rfl⟩
 obtain⟨w3,hw3⟩:∃w3,w3=w2.alloc (.cells #[.pointer (some ⟨c,0,none⟩),.int .i64 fr,.int .i64 bl,.int .i64 0,.int .i64 0,.int .i64 0,.map (some (w.heap.size+1))] 151):=⟨_,rfl⟩
 rw[<- hw1,<- hw2,<- hw3]at e
 have z1:w1.heap.size=w.heap.size+1:=by rw[hw1];simp
 have z2:w2.heap.size=w.heap.size+2:=by rw[hw2];simp[z1]
 have z3:w3.heap.size=w.heap.size+3:=by rw[hw3];simp[z2]
 have z4:w4.heap.size=w.heap.size+4:=by rw[e];simp[z3]
 have b1:Below w.heap.size w w1:=by rw[hw1];exact (Below.refl _ _).alloc (Nat.le_refl _) _
 have b2:Below w1.heap.size w1 w2:=by rw[hw2];exact (Below.refl _ _).alloc (Nat.le_refl _) _
 have b3:Below w2.heap.size w2 w3:=by rw[hw3];exact (Below.refl _ _).alloc (Nat.le_refl _) _
 have b4:Below w3.heap.size w3 w4:=by rw[e];exact (Below.refl _ _).alloc (Nat.le_refl _) _
 have m2:w2.ownsMap Tryz.prog 3 slElem (w.heap.size+1) 0 (.map []:DataW (Nat×Nat)):=by rw[hw2,<- z1];exact World.ownsMap_made w1 Tryz.prog 3 slElem
 have j3:w3.heap[w2.heap.size]?=some (.cells #[.pointer (some ⟨c,0,none⟩),.int .i64 fr,.int .i64 bl,.int .i64 0,.int .i64 0,.int .i64 0,.map (some (w.heap.size+1))] 151 (0,0)):=by
  rw[hw3]
  show (w2.heap.push _)[w2.heap.size]?=_
  simp
 rw[z2]at j3
 refine⟨((b1.trans (b2.mono (by omega))).trans (b3.mono (by omega))).trans (b4.mono (by omega)),z4,(b4.block _ (by omega)).trans j3,mapB_keep m2 ((b4.block _ (by omega)).trans (b3.block _ (by omega))),fun i f hf=>?_⟩
 rw[e]
 rcases i with _ | _ | i
 ·cases hf;exact cell_new z3 0 _ rfl
 ·cases hf;exact cell_new z3 1 _ rfl
 ·simp at hf
theorem jlay_any{room nb:Nat}(h:Cq Z w c p room nb K d)(fr bl:Int) :
  Calls Tryz.prog 118 #[.pointer (some ⟨c,0,none⟩),.agg #[.int .i64 fr,.int .i64 bl]] w fun e w'=>∃jv,e=.returned (.tuple #[.pointer jv,.int .i64 (layC d nb fr bl)])/\Below w.heap.size w w'/\LayP Z w w' c p room nb K d fr bl (layC d nb fr bl) jv:=by
 obtain⟨w4,hw4⟩:∃w4,w4=(((w.alloc (.cells #[.int .i64 fr,.int .i64 bl] 148)).alloc (.map #[] 0)).alloc (.cells #[.pointer (some ⟨c,0,none⟩),.int .i64 fr,.int .i64 bl,.int .i64 0,.int .i64 0,.int .i64 0,.map (some (w.heap.size+1))] 151)).alloc (.cells #[.func (.func 76) #[.pointer (some ⟨w.heap.size+2,0,none⟩)] #[],.func (.func 162) #[.pointer (some ⟨w.heap.size+2,0,none⟩)] #[]] 42):=⟨_,rfl⟩
 obtain⟨b4,z4,J4,M4,F4⟩:=lay_ready c fr bl hw4
 have hC4:=h.cut.below b4
 have hnb:=h.fits.2.2
 have hcs:=hC4.c0
 have HT:Turn (w.heap.size+3) (fun e w'=>e=.returned (.int .i64 (layC d nb fr bl))/\Below w4.heap.size w4 w') [(76,Value.pointer (some ⟨w.heap.size+2,0,none⟩)),(162,Value.pointer (some ⟨w.heap.size+2,0,none⟩))] w4:=by
  refine Turn.step (jask_any J4 hcs.1 hC4.dk) (fun w' b=>b.block _ (by omega)) (fun w' hc b=>⟨?_,b⟩) (fun w5 hc b5=>?_)
  ·unfold layC
   cases ho:d.off
   ·rw[ho]at hc;simp at hc
   ·rfl
  ·have ho:d.off=false:=by
    cases ho:d.off
    ·rfl
    ·rw[ho]at hc;simp at hc
   have hC5:=hC4.below b5
   refine Turn.step (jcheckPlace_any (J4.below b5 (by omega)) hC5.c0.1 hC5.c0.2.1 hC5.dk hnb) (fun w' b=>b.block _ (by have:=b5.size;omega)) (fun w' hc b=>⟨?_,b5.trans (b.mono b5.size)⟩) (fun w6 hc b=>⟨?_,b5.trans (b.mono b5.size)⟩)
   ·unfold layC;rw[ho];rfl
   ·unfold layC;rw[ho];simp[hc]
 have HI:=hid (inTurn_any (k:=w.heap.size+3) [(76,Value.pointer (some ⟨w.heap.size+2,0,none⟩)),(162,Value.pointer (some ⟨w.heap.size+2,0,none⟩))] (by simp) (fun i g hg=>by
  rcases i with _ | _ | i
  ·cases hg;simp
  ·cases hg;simp
  ·simp at hg) w4 F4 HT)
 have HF:Hid (∀w5,Below w4.heap.size w4 w5->Below w.heap.size w w5/\(layC d nb fr bl=0->∃j f b:Nat,some (⟨w.heap.size+2,0,none⟩:Addr)=some ⟨j,0,none⟩/\fr=f/\bl=b/\16<=b/\f+b<=nb/\w.heap.size<=j/\∃Z',Jq Z' w5 j c p room nb K f b d noS/\Gr Z Z' w)):=fun w5 b5=>by
  refine⟨b4.trans (b5.mono b4.size),fun hc=>?_⟩
  have hpc:placeC nb fr bl=0:=by
   unfold layC at hc
   split at hc
   ·cases hc
   ·exact hc
  obtain⟨f,b,rfl,rfl,q3,q4⟩:=placeC_zero hpc
  refine⟨_,f,b,rfl,rfl,rfl,q3,q4,by omega,fun k=>(Z k/\k<w.heap.size)\/k=w.heap.size+1\/k=w.heap.size+2,⟨fun k=>Z k/\k<w.heap.size,w.heap.size+1,0,.map [],fun _=>none,hC4.below b5,J4.below b5 (by omega),mapB_keep M4 (b5.block _ (by omega)),AM.nil nb,fun x g cp hx=>(by cases hx),fun x _=>rfl,fun q=>(by have:=q.2;omega),fun q=>(by have:=q.2;omega),.inr (.inr rfl),.inr (.inl rfl),fun k q=>.inl q,Nat.zero_le _⟩,fun k hk q=>?_⟩
  rcases q with q | q | q
  ·exact q.1
  ·omega
  ·omega
 have hmm:=@run_makeMap Tryz.prog
 clear HT F4 M4 J4 b4 z4 hC4 hcs hnb h
 generalize layC d nb fr bl=code at *
 go_enter Tryz.func118,Tryz.ntmps118
 go_wp2_with fail
 rw[<- hw4]
 refine Calls.mono HI.out ?_
 rintro e w5 ⟨rfl,b5⟩
 have FIN:=hid (HF.out w5 b5)
 clear b5 HI HF hw4 hmm
 by_cases hc:code=0
 ·have FIN2:=hid (FIN.out.2 hc)
  have FIN1:=hid FIN.out.1
  clear FIN
  subst hc
  go_wp2
  go_ret2
  exact⟨_,rfl,FIN1.out,.inr ⟨rfl,FIN2.out⟩⟩
 ·go_wp2
  go_ret2
  exact⟨none,rfl,FIN.out.1,.inl ⟨hc,rfl⟩⟩
end Go.Proofs.YtlefjidbpjkhlaaGreat
