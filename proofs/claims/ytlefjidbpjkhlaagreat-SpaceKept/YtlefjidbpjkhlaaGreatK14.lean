import Derived.Test.YtlefjidbpjkhlaaGreatK13
import Derived.Test.YtlefjidbpjkhlaaGreatK11
set_option maxRecDepth 100000
set_option maxHeartbeats 16000000
namespace Go.Proofs.YtlefjidbpjkhlaaGreat
variable {w w1 w2:World}
variable {B K b bl c cp j m mp n p x:Nat}
variable {X Z Zc:Nat->Prop}
variable {d:Pd}
variable {s:Js}
variable {zs:List Int}
open Go.RowKit
def aheadP (ah:Nat->Option (List Int)) (ps:List (Nat×List Int)):Nat->Option (List Int):=ps.foldl (fun f q=>fun x=>if x=q.1 then some q.2 else f x) ah
theorem aheadP_snoc(ah:Nat->Option (List Int))(ps:List (Nat×List Int))(q:Nat×List Int):aheadP ah (ps++[q])=fun x=>if x=q.1 then some q.2 else aheadP ah ps x:=by
 unfold aheadP
 rw[List.foldl_append]
 rfl
def Pm.put (p:Pm):Nat×List Int:=(p.at_.toNat,p.data)
theorem mapB_tight{D:DataW (Nat×Nat)}(h:w.ownsMap Tryz.prog 3 slElem mp n D):w.ownsMap Tryz.prog 3 slElem mp (Maps.size D) D:=by
 obtain⟨es,ck,h1,h2,h3,rfl⟩:=h
 exact⟨es,ck,h1,h2,by simp[Maps.size,length_sorted],rfl⟩
theorem JqW.put{room nb fr:Nat}{D:DataW (Nat×Nat)}{a:Nat->Option (Nat×Nat)}(h:JqW Z Zc w j c p room nb K fr bl m n D a d s)(b1:Below w.heap.size w w1){g:Nat}(hx:x<nb)(hg:w.heap.size<=g)(ho:Own w1 g 512 cp zs)(hz:Pl.isB zs)(hZ:∀k,Z k->k<w.heap.size)(hm:w2.ownsMap Tryz.prog 3 slElem m (n+1) (D.put (.int .i64 (x:Int)) (.held (g,cp))))(ht:w1.mapTurned w2 m) :
  JqW (fun k=>Z k\/k=g) Zc w2 j c p room nb K fr bl m (Maps.size (D.put (.int .i64 (x:Int)) (.held (g,cp)))) (D.put (.int .i64 (x:Int)) (.held (g,cp))) (putA a x (g,cp)) d { s with ah:=fun y=>if y=x then some zs else s.ah y }:=by
 have b2:=turned_but ht
 have hml:=mapB_lt h.mp
 have hgm:g≠m:=by omega
 have hs1:=b1.size
 have k2:∀k,k<w.heap.size->k≠m->w2.heap[k]?=w.heap[k]?:=fun k hk hkm=>(b2.block k (by omega) hkm).trans (b1.block k hk)
 have hjm:=h.jb.ne_map h.mp
 exact {
  cq:=h.cq.keep (fun k q hk=>k2 k hk (fun e=>h.nm (e ▸ q))) (Nat.le_trans b1.size b2.size)
  jb:=(k2 j h.jb.lt hjm).trans h.jb
  mp:=mapB_tight hm
  am:=h.am.put x hx (g,cp)
  dat:=fun y g' cp' hy=>by
   by_cases e:y=x
   ·subst e
    have e2:g=g'/\cp=cp':=by simpa [putA] using hy
    obtain⟨rfl,rfl⟩:=e2
    exact⟨zs,by simp,ho.keep (b2.block g ho.lt hgm),hz,hx,fun q=>by have:=hZ g (h.sub g q);omega,.inr rfl⟩
   ·have hy':a y=some (g',cp'):=by simpa [putA,e] using hy
    obtain⟨z,h1,h2,h3,h4,h5,h6⟩:=h.dat y g' cp' hy'
    exact⟨z,by simp[e,h1],h2.keep (k2 g' h2.lt (h2.ne_mapB h.mp)),h3,h4,h5,.inl h6⟩
  non:=fun y hy=>by
   by_cases e:y=x
   ·subst e;simp[putA]at hy
   ·have hy':a y=none:=by simpa [putA,e] using hy
    simp[e,h.non y hy']
  nj:=h.nj
  nm:=h.nm
  zj:=.inl h.zj
  zm:=.inl h.zm
  sub:=fun k q=>.inl (h.sub k q)
  sz:=Nat.le_trans (h.am.put x hx (g,cp)).cnt (cntA_le _ _) }
theorem take_any{room nb fr:Nat}(h:Jq Z w j c p room nb K fr bl d s)(hsq:s.seq<1099511627776)(a0:Option Addr)(cp:Nat)(ps:List Pm)(hR:RdP Z w a0 ps)(hp:∀p∈ps,0<=p.at_/\p.at_<nb/\p.data.length=512)(hl:ps.length<=1073741823) :
  Calls Tryz.prog 83 #[.pointer (some ⟨j,0,none⟩),.slice a0 ps.length cp] w fun e w'=>e=.returned (.tuple #[])/\(∃Z',Jq Z' w' j c p room nb K fr bl d ⟨s.life,s.seq+1,s.used,aheadP s.ah (ps.map Pm.put)⟩/\Gr Z Z' w)/\But Z w w':=by
 have hnb:=h.fits.2.2
 have HJ:=hid h
 have HR:=hid hR
 have HP:=hid hp
 clear h hR hp
 generalize hN:ps.length=N at *
 go_enter Tryz.func83,Tryz.ntmps83
 go_wp2_with fail
 go_loopw [8] (fun i wr=>∃q:Nat,q<=N/\i=.int .i64 (q:Int)/\(∃Z',Jq Z' wr j c p room nb K fr bl d ⟨s.life,s.seq,s.used,aheadP s.ah ((ps.take q).map Pm.put)⟩/\Gr Z Z' w/\RdP Z' wr a0 ps)/\But Z w wr) (fun i _=>N-(intOf i).toNat)
 case atStart=>exact⟨0,Nat.zero_le _,rfl,⟨Z,HJ.out,Gr.refl _ _,HR.out⟩,But.refl _ _⟩
 case round=>
  clear HJ HR
  obtain⟨q,hq,rfl,⟨Z',hJr,hGr,hRr⟩,hBt⟩:=hrel
  by_cases hqn:q<N
  ·have hqn':(q:Int)<(N:Int):=by omega
   obtain⟨pp,hpp⟩:∃pp,ps[q]?=some pp:=⟨_,List.getElem?_eq_getElem (by omega)⟩
   obtain⟨p0,p1,p2⟩:=HP.out pp (List.mem_of_getElem? hpp)
   obtain⟨bk,off,ha0,hbk,hbZ,hcell⟩:∃b off,a0=some ⟨b,off,none⟩/\b<wr.heap.size/\¬Z' b/\∀(t:Nat) (p:Pm),ps[t]?=some p->wr.cell? ⟨b,off+t * 2,none⟩=some (.int .i64 p.at_)/\wr.cell? ⟨b,off+t * 2+1,none⟩=some (.slice p.ad p.data.length p.cap):=by
    rcases hRr.2 with e | e
    ·rw[e]at hpp;cases hpp
    ·exact e
   obtain⟨c1,c2⟩:=hcell q pp hpp
   have hrd:=hRr.1 pp (List.mem_of_getElem? hpp)
   obtain⟨ada,had⟩:∃ada,pp.ad=some ada:=by
    rcases hrd.2.2 with e | ⟨b,o,e,_⟩
    ·omega
    ·exact⟨_,e⟩
   rw[had,p2]at c2
   obtain⟨x,hx⟩:∃x:Nat,pp.at_=(x:Int):=⟨pp.at_.toNat,by omega⟩
   rw[hx]at c1
   obtain⟨Zc,m,n,D,a,hW⟩:=hJr.cut
   obtain⟨w2,hw2⟩:∃w2,w2=wr.alloc (.cells #[.int .i64 (x:Int),.slice (some ada) 512 pp.cap] 144):=⟨_,rfl⟩
   have b2:Below wr.heap.size wr w2:=by rw[hw2];exact (Below.refl _ _).alloc (Nat.le_refl _) _
   have z2:w2.heap.size=wr.heap.size+1:=by rw[hw2];simp
   have n0:w2.cell? ⟨wr.heap.size,0,none⟩=some (.int .i64 (x:Int)):=by rw[hw2];exact cell_new rfl 0 _ rfl
   have n1:w2.cell? ⟨wr.heap.size,1,none⟩=some (.slice (some ada) 512 pp.cap):=by rw[hw2];exact cell_new rfl 1 _ rfl
   have hjr:=hW.jb.lt
   have n6:w2.cell? ⟨j,6,none⟩=some (.map (some m)):=(b2.cell (p:=⟨j,6,none⟩) hjr).trans (hW.jb.cell 6)
   have hrd2:Rd w2.drew.heap.size w2.drew (some ada) 512 pp.data:=by
    have r1:=hrd.rd
    rw[had,p2]at r1
    have r2:=(r1.below b2).mono (B':=w2.heap.size) (by omega)
    exact r2
   have HCl:=hid (Clone_any ada 512 pp.cap pp.data w2.drew (by omega) hrd2)
   have HM:=hid (mapB_keep hW.mp (b2.block m (mapB_lt hW.mp)))
   have hszn:=hW.sz
   have HWF:Hid ((Lit.int .i64 (x:Int)).wf=true):=wf_small (by omega) (by omega)
   have KK:=hid (And.intro hW (And.intro hGr (And.intro hBt (And.intro hRr (And.intro b2 (And.intro hrd.2.1 (And.intro hpp (And.intro hx (And.intro p1 p2)))))))))
   subst ha0
   clear hJr hGr hBt hRr hcell hrd hW b2 hrd2 p0 p1 p2 HP hpp hbZ had hx
   go_wp2_with fail
   rw[<- hw2]
   clear hw2 c1 c2
   refine wp_region_noPanic ?_
   refine Gz (S:=fun w'=>w'.cell? ⟨j,6,none⟩=some (.map (some m))/\w'.cell? ⟨wr.heap.size,0,none⟩=some (.int .i64 (x:Int))/\w'.cell? ⟨wr.heap.size,1,none⟩=some (.slice (some ada) 512 pp.cap)) ⟨n6,n0,n1⟩ (fun hSS=>?_)
   refine tj 0 rfl hSS ?_
   simp only[Act.put,List.setIfInBounds_toArray]
   refine tj 1 rfl hSS ?_
   simp only[Act.put]
   refine tj 2 rfl hSS ?_
   simp only[Act.put]
   refine tj 3 rfl hSS ?_
   simp only[Act.put]
   refine tj 4 rfl hSS ?_
   simp only[Act.put]
   refine tj 5 rfl hSS ?_
   simp only[Act.put]
   refine tj 6 rfl hSS ?_
   simp only[Act.put]
   refine tj 7 rfl hSS ?_
   simp only[Act.put]
   refine Ri 8 rfl (fun K9 hK9=>?_)
   go_simp
   go_at_call 103
   refine Calls.mono HCl.out ?_
   rintro e w3 ⟨g,cp3,rfl,hg,ho,b3⟩
   have b3':Below w2.heap.size w2 w3:=⟨b3.os,b3.tape,b3.output,b3.size,b3.block⟩
   have q6:=(b3'.cell (p:=⟨j,6,none⟩) (Nat.lt_of_lt_of_le hjr (by rw[z2];omega))).trans n6
   have q0:=(b3'.cell (p:=⟨wr.heap.size,0,none⟩) (by show wr.heap.size<_;rw[z2];omega)).trans n0
   have q1:=(b3'.cell (p:=⟨wr.heap.size,1,none⟩) (by show wr.heap.size<_;rw[z2];omega)).trans n1
   have FIN0:=hid (And.intro hg (And.intro ho b3'))
   have HM3:=hid (mapB_keep HM.out (b3'.block m (by have:=mapB_lt HM.out;omega)))
   obtain⟨w4,hrun,m4,t4⟩:=World.ownsMap.store (w:=w3) HM3.out law3 Tryz.underlying149 (by unfold maxLen;omega) (keyOf3 HWF.out) (val:=.slice (some ⟨g,0,none⟩) 512 cp3) (d:=.held (g,cp3)) (ps:=[]) rfl
   have FIN1:=hid (And.intro m4 t4)
   clear hg ho b3 b3' m4 t4 HM3
   dsimp only
   refine hK9.out _ _ ⟨q6,q0,q1⟩ (fun hSS3=>?_)
   clear hK9 K9 hSS
   refine Ri 9 rfl (fun K9 hK9=>?_)
   go_simp
   have hmr:=mapB_lt KK.out.1.mp
   have b4:=turned_but FIN1.out.2
   have hs3:=FIN0.out.2.2.size
   have hjm:=KK.out.1.jb.ne_map KK.out.1.mp
   refine hK9.out _ _ ⟨(b4.cell (p:=⟨j,6,none⟩) (by show j<_;omega) hjm).trans q6,(b4.cell (p:=⟨wr.heap.size,0,none⟩) (by show wr.heap.size<_;omega) (by show wr.heap.size≠m;omega)).trans q0,(b4.cell (p:=⟨wr.heap.size,1,none⟩) (by show wr.heap.size<_;omega) (by show wr.heap.size≠m;omega)).trans q1⟩ (fun hSS4=>?_)
   clear hK9 K9 hSS3 hSS4 q6 q0 q1 hrun
   refine Dn (NoPanic.normal ?_)
   obtain⟨hW,hGr,hBt,hRr,b2,hzb,hpp,hx,p1,p2⟩:=KK.out
   have b13:Below wr.heap.size wr w3:=b2.trans (FIN0.out.2.2.mono b2.size)
   have hO:Own w3 g 512 cp3 pp.data:=FIN0.out.2.1
   have hgr:wr.heap.size<=g:=by have:=FIN0.out.1;have:w2.drew.heap.size=w2.heap.size:=rfl;omega
   have hP:=hW.put (x:=x) b13 (by omega) hgr hO hzb (fun k q=>q.2) FIN1.out.1 FIN1.out.2
   have bb:But (fun k=>k=m) wr w4:=(But.of_below b13).trans b4
   have hzm:=hW.zm
   have hR2:=hRr.but bb (fun k _ e=>by rw[e];exact hzm.1) (fun k=>(Z' k/\k<wr.heap.size)\/k=g) (fun k hk q=>by rcases q with q | q;exact q.1;omega)
   have hah:aheadP s.ah ((ps.take (q+1)).map Pm.put)=fun y=>if y=x then some pp.data else aheadP s.ah ((ps.take q).map Pm.put) y:=by rw[List.take_add_one,hpp,List.map_append];show aheadP s.ah ((ps.take q).map Pm.put++[pp.put])=_;rw[aheadP_snoc];simp[Pm.put,hx]
   have FIN:Hid ((∃Z2,Jq Z2 w4 j c p room nb K fr bl d ⟨s.life,s.seq,s.used,aheadP s.ah ((ps.take (q+1)).map Pm.put)⟩/\Gr Z Z2 w/\RdP Z2 w4 (some ⟨bk,off,none⟩) ps)/\But Z w w4):=⟨⟨_,⟨Zc,m,_,_,_,by rw[hah];exact hP⟩,fun k hk q=>(by have:=hBt.size;rcases q with q | q;exact hGr k hk q.1;omega),hR2⟩,hBt.comp bb (fun k hk e=>by rw[e];exact hGr m (by rw[<- e];exact hk) hzm.1)⟩
   clear hW hGr hBt hRr b2 hzb hpp hx p1 p2 b13 hO hgr hP bb hR2 hah KK FIN0 FIN1 HCl HM HWF hmr b4 hs3 hjm n0 n1 n6 z2 hzm
   go_wp2_with fail
   go_roundw
   case rel=>exact⟨q+1,by omega,by go_num,FIN.out.1,FIN.out.2⟩
   case measure=>simp[intOf];omega
  ·have hqn':¬(q:Int)<(N:Int):=by omega
   have hqe:ps.take q=ps:=List.take_of_length_le (by omega)
   rw[hqe]at hJr
   obtain⟨Zc,m,n,D,a,hW⟩:=hJr
   have j4:=hW.jb.cell 4
   have f4:=hW.jb.frozen 4
   simp at j4
   have hwr:IntKind.i64.wrap ((s.seq:Int)+1)=(s.seq:Int)+1:=by rw[IntKind.wrap_i64];omega
   obtain⟨w2,hw2⟩:∃w2,w2=wr.setCell ⟨j,4,none⟩ (.int .i64 ((s.seq:Int)+1)):=⟨_,rfl⟩
   have J1:Jb w2 j c fr bl s.life ((s.seq:Int)+1) s.used (.map (some m)):=by rw[hw2];simpa [Jb] using hW.jb.set 4 (.int .i64 ((s.seq:Int)+1))
   have bb:But (fun k=>k=j) wr w2:=by rw[hw2];exact (But.refl (fun y=>y=j) wr).setCell (p:=⟨j,4,none⟩) (show (fun y=>y=j) j from rfl) _
   have hzj:=hW.zj
   have FIN:Hid ((∃Z2,Jq Z2 w2 j c p room nb K fr bl d ⟨s.life,s.seq+1,s.used,aheadP s.ah (ps.map Pm.put)⟩/\Gr Z Z2 w)/\But Z w w2):=⟨⟨Z',⟨Zc,m,n,D,a,hW.rejb (s':=⟨s.life,s.seq+1,s.used,aheadP s.ah (ps.map Pm.put)⟩) bb (by simpa using J1) rfl⟩,hGr⟩,hBt.comp bb (fun k hk e=>by rw[e];exact hGr j (by rw[<- e];exact hk) hzj)⟩
   clear hW hGr hBt hRr J1 bb hzj HP hqe
   go_wp2
   go_end0
   rw[<- hw2]
   exact⟨rfl,FIN.out.1,FIN.out.2⟩
open Go.RowKit
def putK (zs:List Int) (i:Nat):Nat×List Int:=((Pl.num ((zs.drop (515 * i)).take 3)).toNat,(zs.drop (515 * i+3)).take 512)
def putsZ (zs:List Int):List (Nat×List Int):=(List.range (zs.length / 515)).map (putK zs)
def putM (zs:List Int) (b off cp i:Nat):Pm:=⟨Pl.num ((zs.drop (515 * i)).take 3),some ⟨b,off+(515 * i+3),none⟩,cp-515 * i-3,(zs.drop (515 * i+3)).take 512⟩
def pmCells (ps:List Pm):List Value:=ps.flatMap fun p=>[.int .i64 p.at_,.slice p.ad p.data.length p.cap]
theorem pmCells_snoc(ps:List Pm)(p:Pm):pmCells (ps++[p])=pmCells ps++[.int .i64 p.at_,.slice p.ad p.data.length p.cap]:=by simp[pmCells]
theorem info68:(Tryz.prog.info? 144).map (fun i=>(i.zero,i.size,i.bytes))=some (some (.agg #[.int .i64 0,.slice none 0 0]),2,32):=by kernel_rfl
theorem num3(hb:Pl.isB zs)(i:Nat):0<=Pl.num ((zs.drop i).take 3)/\Pl.num ((zs.drop i).take 3)<16777216:=by
 have h:=Pl.num_lt (Pl.isB_take (Pl.isB_drop hb i) 3)
 have h2:((zs.drop i).take 3).length<=3:=by simp;omega
 have h3:(256:Int) ^ ((zs.drop i).take 3).length<=16777216:=by
  generalize ((zs.drop i).take 3).length=m at h2
  match m,h2 with
  | 0,_=>decide
  | 1,_=>decide
  | 2,_=>decide
  | 3,_=>decide
 exact⟨Pl.num_nonneg (Pl.isB_take (Pl.isB_drop hb i) 3),by omega⟩
theorem okW_one:okW [3]:=by
 intro x hx
 simp at hx
 subst hx
 rfl
theorem rdn_part{off:Nat}(h:RdN X w (some ⟨b,off,none⟩) n zs)(i k:Nat)(hk:i+k<=n)(h0:0<n):RdN X w (some ⟨b,off+i,none⟩) k ((zs.drop i).take k):=by
 obtain⟨h1,h2,h3⟩:=h
 rcases h3 with h3 | ⟨b',o',e,hb,hx,hc⟩
 ·omega
 ·cases e
  refine⟨by simp;omega,Pl.isB_take (Pl.isB_drop h2 _) _,.inr ⟨b,off+i,rfl,hb,hx,fun t ht=>?_⟩⟩
  rw[Nat.add_assoc,hc (i+t) (by omega)]
  simp[List.getElem?_take_of_lt ht]
theorem beq_cast(t:Nat):decide (t=0)=((t:Int) == 0):=by
 rw[Bool.eq_iff_iff]
 simp
def lenV:Value->Nat
 | .slice _ n _=>n
 | _=>0
theorem rd_part{off:Nat}(h:Rd B w (some ⟨b,off,none⟩) n zs)(i k:Nat)(hk:i+k<=n)(hb:b<B):Rd B w (some ⟨b,off+i,none⟩) k ((zs.drop i).take k):=by
 obtain⟨h1,h2,h3⟩:=h
 refine⟨by simp;omega,Pl.isB_take (Pl.isB_drop h2 _) _,.inr ⟨b,off+i,rfl,hb,fun t ht=>?_⟩⟩
 rcases h3 with h3 | ⟨b',o',e,_,hc⟩
 ·omega
 ·cases e
  rw[Nat.add_assoc,hc (i+t) (by omega)]
  simp[List.getElem?_take_of_lt ht]
theorem putsOf_any(X:Nat->Prop)(a:Option Addr)(n cp:Nat)(zs:List Int)(w:World)(hRX:RdN X w a n zs)(hcp:n<=cp)(hn:n<=1073741823) :
  Calls Tryz.prog 197 #[.slice a n cp] w fun e w'=>∃pv ps cq,e=.returned (.tuple #[.slice pv (n / 515) cq,.bool (decide (n % 515=0))])/\ps.map Pm.put=putsZ zs/\ps.length=n / 515/\(∀p∈ps,0<=p.at_/\p.data.length=512/\RdN X w p.ad 512 p.data)/\w'.ownsRow w.heap.size 144 2 (.slice pv (n / 515) cq) (n / 515) (pmCells ps)/\Below w.heap.size w w':=by
 have hR:=hRX.rd
 have HRX:=hid hRX
 clear hRX
 have hl:=hR.1
 obtain⟨b,off,hbo⟩:∃b off,515<=n->a=some ⟨b,off,none⟩/\b<w.heap.size:=by
  rcases hR.2.2 with e | ⟨b,off,e,hb,_⟩
  ·exact⟨0,0,fun q=>by omega⟩
  ·exact⟨b,off,fun _=>⟨e,hb⟩⟩
 obtain⟨i68,hi68,hz68,hs68,hb68⟩:=info_parts info68
 have R0:Hid ((w.alloc (.cells #[] 144)).ownsRow w.heap.size 144 2 (.slice (some ⟨w.heap.size,0,none⟩) 0 0) 0 []):=World.ownsRow_lit w #[] 0 (Nat.le_refl _) (by decide) rfl
 have B0:Hid (Below w.heap.size w (w.alloc (.cells #[] 144))):=(Below.refl w.heap.size w).alloc (Nat.le_refl _) _
 by_cases h5:515<=n
 ·obtain⟨rfl,hbw⟩:=hbo h5
  have HR:=hid hR
  clear hR hbo
  go_enter Tryz.func197,Tryz.ntmps197
  go_wp2_with fail
  go_loopw [0,4] (fun dv pv wr=>∃i:Nat,515 * i<=n/\(∃av,dv=.slice av (n-515 * i) (cp-515 * i)/\(515<=n-515 * i->av=some ⟨b,off+515 * i,none⟩))/\∃g cq,pv=.slice (some ⟨g,0,none⟩) i cq/\wr.ownsRow w.heap.size 144 2 (.slice (some ⟨g,0,none⟩) i cq) i (pmCells ((List.range i).map (putM zs b off cp)))/\Below w.heap.size w wr) (fun dv _ _=>lenV dv)
  case atStart=>exact⟨0,by omega,⟨_,rfl,fun _=>rfl⟩,_,_,rfl,R0.out,B0.out⟩
  case round=>
   clear R0 B0
   obtain⟨i,hi,⟨av,rfl,hav⟩,g,cq,rfl,hrow,hbt⟩:=hrel
   by_cases hr5:515<=n-515 * i
   ·have hav2:=hav hr5
    subst hav2
    clear hav
    have hgl:=(World.ownsRow.lt hrow g rfl).2
    obtain⟨w1,hw1⟩:∃w1,w1=wr.alloc (.cells #[.int .i64 3] 3):=⟨_,rfl⟩
    have b1:Below wr.heap.size wr w1:=by rw[hw1];exact (Below.refl _ _).alloc (Nat.le_refl _) _
    have z1:w1.heap.size=wr.heap.size+1:=by rw[hw1];simp
    have hsw:=hbt.size
    have hR3:Rd w1.heap.size w1 (some ⟨b,off+515 * i,none⟩) 3 ((zs.drop (515 * i)).take 3):=((rd_part HR.out (515 * i) 3 (by omega) hbw).below (hbt.trans (b1.mono hsw))).mono (by omega)
    have hRI:RdI w1.heap.size w1 (some ⟨wr.heap.size,0,none⟩) 1 [3]:=⟨rfl,.inr ⟨wr.heap.size,0,rfl,by omega,fun t ht=>by
     rw[hw1]
     rcases t with _ | t
     ·exact cell_new rfl 0 _ rfl
     ·omega⟩⟩
    obtain⟨v0,hv0⟩:∃v0,v0=Pl.num ((zs.drop (515 * i)).take 3):=⟨_,rfl⟩
    have hvk:valK ((zs.drop (515 * i)).take 3) [3] 0=v0:=by rw[hv0];simp[valK,sumW,List.take_take]
    have hn3:=num3 HR.out.2.1 (515 * i)
    rw[<- hv0]at hn3
    have HU:=hid (Unpack_ok (some ⟨b,off+515 * i,none⟩) (some ⟨wr.heap.size,0,none⟩) 3 (cp-515 * i) 1 1 ((zs.drop (515 * i)).take 3) [3] w1 (by omega) (by omega) hR3 hRI okW_one rfl (fun k hk=>by
     rcases k with _ | k
     ·rw[hvk];omega
     ·omega))
    rw[show vals ((zs.drop (515 * i)).take 3) [3] 1=[v0] by simp[vals,hvk]]at HU
    have HV:=hid (And.intro hv0 hn3)
    have HBt:=hid hbt
    have HB1:=hid b1
    have HRow0:=hid hrow
    have HGW:Hid (w.heap.size<=g):=(World.ownsRow.lt hrow g rfl).1
    obtain⟨r,hr⟩:∃r,r=n-515 * i:=⟨_,rfl⟩
    obtain⟨r',hr'⟩:∃r',r'=cp-515 * i:=⟨_,rfl⟩
    obtain⟨o,ho⟩:∃o,o=off+515 * i:=⟨_,rfl⟩
    rw[<- hr]at hr5
    rw[<- hr',<- ho]at HU
    rw[<- hr,<- hr',<- ho]
    have HO:=hid (And.intro hr (And.intro hr' ho))
    have hrr:r<=r':=by omega
    have hi7:i<=1073741823:=by omega
    have y1:¬r'=3:=by omega
    have x1:(515:Int)<=(r:Int):=by omega
    have x2:(515:Int)<=(r':Int):=by omega
    have x3:(3:Int)<=(r':Int):=by omega
    have x4:(r:Int)<=(r':Int):=by omega
    clear hrow hbt b1 hR3 hRI hvk hn3 hv0 hr hr' ho
    go_wp2_with fail
    rw[<- hw1]
    refine Calls.mono HU.out ?_
    rintro e w2 ⟨g3,rfl,hg3a,hb3,b2⟩
    have c0:=hb3.cell 0 (by simp)
    simp at c0
    have hg3:=hb3.lt
    have hgg:g≠g3:=by omega
    have hgw:w.heap.size<=g:=HGW.out
    have HB2:=hid (HB1.out.trans (b2.mono HB1.out.size))
    have HRow:=hid (owns_below HRow0.out ((HB2.out).trans ((Below.refl _ _).alloc HB2.out.size (.cells #[.int .i64 v0,.slice (some ⟨b,o+3,none⟩) 512 (r'-3)] 144))))
    clear hb3 b2 HU hw1 HRow0
    go_wp2_with fail
    refine wp_region_noPanic ?_
    refine Gz (S:=fun w'=>w'.cell? ⟨g3,0,none⟩=some (.int .i64 v0)) c0 (fun hSS=>?_)
    refine tj 0 rfl hSS ?_
    simp only[Act.put,List.setIfInBounds_toArray]
    refine tj 1 rfl hSS ?_
    simp only[Act.put]
    refine tj 2 rfl hSS ?_
    simp only[Act.put]
    refine tj 3 rfl hSS ?_
    simp only[Act.put]
    refine tj 4 rfl hSS ?_
    simp only[Act.put]
    refine tj 5 rfl hSS ?_
    simp only[Act.put]
    refine tj 6 rfl hSS ?_
    simp only[Act.put]
    refine Ri 7 rfl (fun K9 hK9=>?_)
    go_simp
    refine hK9.out _ _ ((World.cell?_alloc_past _ _ _ hg3).trans c0) (fun hSS2=>?_)
    clear hK9 K9 hSS
    refine Ri 8 rfl (fun K9 hK9=>?_)
    refine step_append_lies _ (by rfl) _ _ _ (by rfl) w.heap.size 144 i68 (.agg #[.int .i64 0,.slice none 0 0]) 2 32 Tryz.underlying87 hi68 hz68 hs68 hb68 rfl (by decide) _ i _ (by rfl) (by exact HRow.out) ⟨w2.heap.size,0,none⟩ 1 1 [.int .i64 v0,.slice (some ⟨b,o+3,none⟩) 512 (r'-3)] (by rfl) (by rfl) (by exact news2 w2 _ _ _) (by intro u hu;simp at hu;rcases hu with rfl | rfl <;> rfl) (by decide) (by unfold maxLen;omega) (by omega) (by have:=HBt.out.size;simp;omega) (w2.heap.size+1) (by simp) ?_
    intro g4 cap4 w6 ho4 hg4 hlie4 _
    have hg5:((w2.alloc (.cells #[.int .i64 v0,.slice (some ⟨b,o+3,none⟩) 512 (r'-3)] 144)).drew).grownBy w6 (some g):=hg4
    have q0:w6.cell? ⟨g3,0,none⟩=some (.int .i64 v0):=(World.cell?_of_block (hg5.block g3 (by simp;omega) (fun e=>hgg (by injection e with e;exact e.symm)))).trans ((World.cell?_alloc_past _ _ _ hg3).trans c0)
    have FIN0:=hid (And.intro ho4 hg5)
    clear ho4 hg4 hg5 hlie4
    dsimp [Act.put]
    refine hK9.out _ _ q0 (fun hSS3=>?_)
    clear hK9 K9 hSS2
    refine tj 9 rfl hSS3 ?_
    dsimp [Act.put]
    refine Dn (NoPanic.normal ?_)
    obtain⟨hr,hr',ho⟩:=HO.out
    have hpm:pmCells ((List.range (i+1)).map (putM zs b off cp))=pmCells ((List.range i).map (putM zs b off cp))++[.int .i64 v0,.slice (some ⟨b,o+3,none⟩) 512 (r'-3)]:=by
     rw[List.range_succ,List.map_append]
     show pmCells (_++[putM zs b off cp i])=_
     rw[pmCells_snoc]
     have hdl:((zs.drop (515 * i+3)).take 512).length=512:=by rw[List.length_take,List.length_drop];omega
     simp only[putM,hdl]
     rw[<- HV.out.1,ho,hr',Nat.add_assoc]
    have hrow6:w6.ownsRow w.heap.size 144 2 (.slice (some ⟨g4,0,none⟩) (i+1) cap4) (i+1) (pmCells ((List.range (i+1)).map (putM zs b off cp))):=by rw[hpm];exact FIN0.out.1
    have bX:But (fun x=>w.heap.size<=x) w w6:=(((But.of_below HBt.out (X:=fun x=>w.heap.size<=x)).trans (But.of_below HB2.out)).alloc (.cells #[.int .i64 v0,.slice (some ⟨b,o+3,none⟩) 512 (r'-3)] 144)).drew.of_grown FIN0.out.2 (fun x e _=>by cases e;exact hgw)
    have FIN:=hid (And.intro hrow6 (bX.below (Nat.le_refl _) (fun k hk q=>by omega)))
    clear hpm hrow6 bX FIN0 HRow HB2 HB1 HBt q0 hSS3 c0 hg3 hgg hgl
    by_cases hr15:r'=515
    ·go_wp2_with fail
     go_roundw
     case rel=>exact⟨i+1,by omega,⟨some ⟨b,off+515 * i,none⟩,by rw[show n-515 * (i+1)=n-515 * i-515 by omega,show cp-515 * (i+1)=cp-515 * i-515 by omega],fun q=>by omega⟩,g4,cap4,rfl,FIN.out.1,FIN.out.2⟩
     case measure=>simp[lenV];omega
    ·go_wp2_with fail
     go_roundw
     case rel=>exact⟨i+1,by omega,⟨some ⟨b,off+515 * i+515,none⟩,by rw[show n-515 * (i+1)=n-515 * i-515 by omega,show cp-515 * (i+1)=cp-515 * i-515 by omega],fun q=>by rw[show off+515 * (i+1)=off+515 * i+515 by omega]⟩,g4,cap4,rfl,FIN.out.1,FIN.out.2⟩
     case measure=>simp[lenV];omega
   ·have hie:i=n / 515:=by omega
    have hx:¬(515:Int)<=((n-515 * i:Nat):Int):=by omega
    have hdm:(decide (n % 515=0))=(((n-515 * i:Nat):Int) == 0):=by
     rw[show n-515 * i=n % 515 by omega]
     exact beq_cast _
    have FIN:Hid (∃ps:List Pm,ps.map Pm.put=putsZ zs/\ps.length=n / 515/\(∀p∈ps,0<=p.at_/\p.data.length=512/\RdN X w p.ad 512 p.data)/\wr.ownsRow w.heap.size 144 2 (.slice (some ⟨g,0,none⟩) (n / 515) cq) (n / 515) (pmCells ps)/\Below w.heap.size w wr):=by
     rw[hie]at hrow
     refine⟨(List.range (n / 515)).map (putM zs b off cp),?_,by simp,fun p hp=>?_,hrow,hbt⟩
     ·unfold putsZ
      rw[List.map_map,hl]
      rfl
     ·obtain⟨k,hk,rfl⟩:=List.mem_map.1 hp
      rw[List.mem_range]at hk
      refine⟨(num3 HR.out.2.1 _).1,?_,rdn_part HRX.out (515 * k+3) 512 (by omega) (by omega)⟩
      show ((zs.drop (515 * k+3)).take 512).length=512
      rw[List.length_take,List.length_drop]
      omega
    have HD:=hid hdm
    have HI:=hid hie
    clear hrow hbt hdm hie hav hr5
    generalize n-515 * i=r at *
    go_wp2
    go_ret2
    obtain⟨ps,f1,f2,f3,f4,f5⟩:=FIN.out
    exact⟨_,ps,cq,by rw[HD.out,<- HI.out];rfl,f1,f2,f3,f4,f5⟩
 ·have hx:¬(515:Int)<=(n:Int):=by omega
  have hn0:n / 515=0:=by omega
  have hdm:(decide (n % 515=0))=((n:Int) == 0):=by
   rw[show n % 515=n by omega]
   exact beq_cast _
  have HD:=hid (And.intro hdm hn0)
  have HZ:Hid (putsZ zs=[]):=by unfold putsZ;rw[hl,hn0];rfl
  clear hdm hn0 hR hbo h5
  go_enter Tryz.func197,Tryz.ntmps197
  go_wp2_with fail
  refine wp_loop_rounds 1 ?_
  rw[rounds_succ]
  go_wp2
  go_ret2
  exact⟨some ⟨w.heap.size,0,none⟩,[],0,by rw[HD.out.1,HD.out.2];rfl,by rw[HZ.out];rfl,by rw[HD.out.2];rfl,fun p hp=>(by cases hp),by rw[HD.out.2];exact R0.out,B0.out⟩
end Go.Proofs.YtlefjidbpjkhlaaGreat
