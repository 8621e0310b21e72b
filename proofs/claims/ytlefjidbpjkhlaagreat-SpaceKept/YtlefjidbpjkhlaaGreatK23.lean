import Derived.Test.YtlefjidbpjkhlaaGreatK22
set_option maxRecDepth 100000
set_option maxHeartbeats 16000000
namespace Go.Proofs.YtlefjidbpjkhlaaGreat
variable {X Y Z:Nat->Prop}
variable {w w' w3:World}
variable {a:Option Addr}
variable {K bl c e i j k m mp n p q:Nat}
variable {zs:List Int}
variable {rs:List (Int×List Int)}
variable {s:Js}
variable {d:Pd}
variable {xs:List Value}
variable {v1:Value}
open Go.RowKit
def RdR (X:Nat->Prop) (w:World) (a:Option Addr) (rs:List Rm):Prop :=
 (∀r∈rs,RdN X w r.ad r.body.length r.body)/\(rs=[]\/∃b off,a=some ⟨b,off,none⟩/\b<w.heap.size/\¬X b/\∀(t:Nat) (r:Rm),rs[t]?=some r->w.cell? ⟨b,off+t,none⟩=some r.val)
theorem RdN.turn(h:RdN X w a n zs)(hb:But Y w w')(hy:∀k,k<w.heap.size->Y k->X k)(X':Nat->Prop)(hx:∀k,k<w.heap.size->X' k->X k):RdN X' w' a n zs:=by
 obtain⟨q1,q2,q3⟩:=h
 refine⟨q1,q2,?_⟩
 rcases q3 with q3 | ⟨b,off,q4,q5,q6,q7⟩
 ·exact .inl q3
 ·exact .inr ⟨b,off,q4,Nat.lt_of_lt_of_le q5 hb.size,fun q=>q6 (hx b q5 q),fun t ht=>(hb.cell (p:=⟨b,off+t,none⟩) q5 (fun q=>q6 (hy b q5 q))).trans (q7 t ht)⟩
theorem RdR.but{rs:List Rm}(h:RdR X w a rs)(hb:But Y w w')(hy:∀k,k<w.heap.size->Y k->X k)(X':Nat->Prop)(hx:∀k,k<w.heap.size->X' k->X k):RdR X' w' a rs:=by
 obtain⟨h1,h2⟩:=h
 refine⟨fun p hp=>(h1 p hp).turn hb hy X' hx,?_⟩
 rcases h2 with h2 | ⟨b,off,q4,q5,q6,q7⟩
 ·exact .inl h2
 ·exact .inr ⟨b,off,q4,Nat.lt_of_lt_of_le q5 hb.size,fun q=>q6 (hx b q5 q),fun t p hp=>(hb.cell (p:=⟨b,off+t,none⟩) q5 (fun q=>q6 (hy b q5 q))).trans (q7 t p hp)⟩
def recCmds (base life:Nat) (rs:List (Int×List Int)):List Cmd:=rs.mapIdx fun i r=>Cmd.wr (base+i) (stampZ r.1 (life:Int) r.2)
theorem recCmds_snoc(base life:Nat)(rs:List (Int×List Int))(r:Int×List Int):recCmds base life (rs++[r])=recCmds base life rs++[.wr (base+rs.length) (stampZ r.1 (life:Int) r.2)]:=by
 unfold recCmds
 rw[List.mapIdx_append]
 simp
theorem length_recCmds(base life:Nat)(rs:List (Int×List Int)):(recCmds base life rs).length=rs.length:=by simp[recCmds]
theorem recCmds_take{base life:Nat} :∃t,recCmds base life rs=recCmds base life (rs.take q)++t:=by
 refine⟨(rs.drop q).mapIdx fun i r=>Cmd.wr (base+(i+(rs.take q).length)) (stampZ r.1 (life:Int) r.2),?_⟩
 unfold recCmds
 conv=>lhs;rw[<- List.take_append_drop q rs]
 rw[List.mapIdx_append]
theorem stamped_rec{life:Nat}(hlf:life<=1099511627776)(r:Rm)(hT:r.T=197\/r.T=198)(hb:r.body.length<=497)(w:World)(hR:Rd w.heap.size w r.ad r.body.length r.body):Calls Tryz.prog 167 #[r.val,.int .i64 (life:Int)] w fun e w'=>∃g,e=.returned (.tuple #[.slice (some ⟨g,0,none⟩) 512 512,.int .i64 0])/\w.heap.size<=g/\Blk .u8 5 w' g (stampZ r.out.1 (life:Int) r.out.2)/\Below w.heap.size w w':=by
 obtain⟨T,ad,cp,body⟩:=r
 rcases hT with e | e
 ·simp only at e
  subst e
  exact stamped_piece ad body.length cp body hlf hb w hR
 ·simp only at e
  subst e
  exact stamped_last ad body.length cp body hlf hb w hR
def wlS (bl:Nat) (s:Js) (n:Nat):Js:=if bl-1<s.used+n then goS s else s
def wlCmds (nb fr bl:Nat) (s:Js) (rs:List (Int×List Int)):List Cmd:=(if bl-1<s.used+rs.length then settleCmds nb fr bl s else [])++recCmds (fr+1+(wlS bl s rs.length).used) (wlS bl s rs.length).life rs
def wlE (bl:Nat) (s:Js) (n:Nat):Js:=⟨(wlS bl s n).life,(wlS bl s n).seq,(wlS bl s n).used+n,(wlS bl s n).ah⟩
theorem goS_jn{nb fr:Nat}(h:Jn nb fr bl s):Jn nb fr bl (goS s)/\(goS s).used=0:=by
 unfold goS
 split
 ·rename_i q
  exact⟨⟨h.lo,h.fit,h.nb,by simp[beginS];omega,h.seq,by have:=h.lo;simp[beginS];omega⟩,rfl⟩
 ·exact⟨⟨h.lo,h.fit,h.nb,by show 1<=_;omega,h.seq,by have:=h.lo;show 0+1<=bl;omega⟩,rfl⟩
theorem writeLog_any{room nb fr:Nat}(h:Jq Z w j c p room nb K fr bl d s)(hn:Jn nb fr bl s)(rv:Option Addr)(cR:Nat)(rs:List Rm)(hR:RdR Z w rv rs)(hrs:∀r∈rs,(r.T=197\/r.T=198)/\r.body.length<=497)(hN0:rs.length+1<=bl)(hl:d.puts.length+nb+bl+bl+16<=1073741823) :
  Calls Tryz.prog 81 #[.pointer (some ⟨j,0,none⟩),.slice rv rs.length cR] w (Did Z w j c p room nb K fr bl d (wlCmds nb fr bl s (rs.map Rm.out)) (wlE bl s rs.length)):=by
 obtain⟨cs2,hcs2⟩:∃cs2,cs2=wlCmds nb fr bl s (rs.map Rm.out):=⟨_,rfl⟩
 obtain⟨sE,hsE⟩:∃sE,sE=wlE bl s rs.length:=⟨_,rfl⟩
 rw[<- hcs2,<- hsE]
 unfold wlCmds at hcs2
 rw[List.length_map]at hcs2
 have hlo:=hn.lo
 have hfit:=hn.fit
 have hnb:=hn.nb
 have hus:=hn.used
 obtain⟨mv,hJ,hZj⟩:=h.cells
 have j1:=hJ.cell 1
 have j2:=hJ.cell 2
 have j5:=hJ.cell 5
 simp at j1 j2 j5
 have hjl:=hJ.lt
 have HA:=hid (jlogRoom_any (fr:Int) (bl:Int) (by omega) (by omega) w.drew)
 have HH:=hid (And.intro h (And.intro hn hR))
 have HRS:=hid hrs
 generalize hN:rs.length=N at *
 have hw0:IntKind.i64.wrap ((s.used:Int)+(N:Int))=(s.used:Int)+(N:Int):=by rw[IntKind.wrap_i64];omega
 have hbl1:((bl:Int)-1)=((bl-1:Nat):Int):=by omega
 rw[hbl1]at HA
 clear hJ h hn hR hrs hbl1
 by_cases hbig:bl-1<s.used+N
 ·have hx:((bl-1:Nat):Int)<(s.used:Int)+(N:Int):=by omega
  rw[if_pos hbig]at hcs2
  have hs1:wlS bl s N=goS s:=if_pos hbig
  rw[hs1]at hcs2
  have HSE:Hid (sE=⟨(goS s).life,(goS s).seq,(goS s).used+N,(goS s).ah⟩):=by rw[hsE];unfold wlE;rw[hs1];exact hid rfl
  have HCS:=hid hcs2
  clear hs1 hsE hcs2 hbig
  generalize bl-1=L at *
  go_enter Tryz.func81,Tryz.ntmps81
  go_wp2_with fail
  go_region_held3 (fun w'=>w'.cell? ⟨j,1,none⟩=some (.int .i64 (fr:Int))/\w'.cell? ⟨j,2,none⟩=some (.int .i64 (bl:Int))/\w'.cell? ⟨j,5,none⟩=some (.int .i64 (s.used:Int))) (first | (exact⟨by assumption,by assumption,by assumption⟩) | go_keep) (first
   | (go_at_call 135;refine Calls.mono HA.out ?_;rintro e w3 ⟨rfl,b3⟩;have B3:Hid (Below w.heap.size w w3):=⟨b3.os,b3.tape,b3.output,b3.size,b3.block⟩;have n1:=(B3.out.cell (p:=⟨j,1,none⟩) hjl).trans j1;have n2:=(B3.out.cell (p:=⟨j,2,none⟩) hjl).trans j2;have n5:=(B3.out.cell (p:=⟨j,5,none⟩) hjl).trans j5;clear b3))
  have HSt:=hid (settle_any (HH.out.1.cut.below B3.out) HH.out.2.1 (by omega))
  have hgj:=goS_jn HH.out.2.1
  have hscl:=d.runs_puts (settleCmds nb fr bl s)
  have hscl2:(settleCmds nb fr bl s).length<=nb+bl+7:=by
   have q1:=length_homeCmds nb s.ah
   have q2:=length_goCmds fr bl s
   unfold settleCmds
   simp only[List.length_append,List.length_cons,List.length_nil]
   omega
  have HGJ:=hid (And.intro hgj.2 (And.intro hscl hscl2))
  have HN1:=hid hgj.1
  clear hgj hscl hscl2
  generalize hcs1:settleCmds nb fr bl s=cs1 at *
  generalize hs1:goS s=s1 at *
  clear hcs1 hs1 HA n1 n2 n5 j1 j2 j5
  go_wp2_with fail
  refine Calls.mono HSt.out ?_
  intro e w4 hD
  have hD0:=hD.from (fun k _ r=>r.1) (But.of_below B3.out) (Z0:=Z)
  obtain⟨he,⟨Z4,s4,hJ4,hs4,hG4⟩,b4⟩:=hD
  subst he
  have hs3:=B3.out.size
  have hRR:RdR Z4 w4 rv rs:=(HH.out.2.2.but (But.of_below B3.out (X:=fun _=>False)) (fun k _ r=>r.elim) Z (fun k _ r=>r)).but b4 (fun k _ r=>r.1) Z4 (fun k hk r=>(hG4 k hk r).1)
  by_cases hc:(d.runs cs1).1=0
  ·rw[hs4 hc]at hJ4
   have H1:=hid (And.intro hc (And.intro (show ∃Zr,Jq Zr w4 j c p room nb K fr bl (d.runs cs1).2 s1/\Gr Z Zr w/\RdR Zr w4 rv rs from ⟨Z4,hJ4,fun k hk r=>(hG4 k (by omega) r).1,hRR⟩) hD0.2.2))
   have hpl1:=HGJ.out.2.1
   have hpl2:=HGJ.out.2.2
   have hus1:s1.used+N+1<=bl:=by have:=HGJ.out.1;omega
   rw[hc]
   clear hJ4 hs4 hG4 b4 hD0 hRR hc HSt HH hs3 B3 HGJ
   go_wp2_with fail
   go_loopw [29] (fun iv wr=>∃q:Nat,q<=N/\iv=.int .i64 (q:Int)/\(d.runs (cs1++recCmds (fr+1+s1.used) s1.life ((rs.map Rm.out).take q))).1=0/\(∃Zr,Jq Zr wr j c p room nb K fr bl (d.runs (cs1++recCmds (fr+1+s1.used) s1.life ((rs.map Rm.out).take q))).2 s1/\Gr Z Zr w/\RdR Zr wr rv rs)/\But Z w wr) (fun iv _=>N-(intOf iv).toNat)
   case atStart=>exact⟨0,Nat.zero_le _,rfl,by simpa [recCmds] using H1.out.1,by simpa [recCmds] using H1.out.2.1,H1.out.2.2⟩
   case round=>
    clear H1
    obtain⟨q,hq,rfl,hz,⟨Zr,hJr,hGr,hRr⟩,hBt⟩:=hrel
    by_cases hqn:q<N
    ·have hqn':(q:Int)<(N:Int):=by omega
     obtain⟨r,hrq⟩:∃r,rs[q]?=some r:=⟨_,List.getElem?_eq_getElem (by omega)⟩
     obtain⟨rT,rB⟩:=HRS.out r (List.mem_of_getElem? hrq)
     obtain⟨bk,off,rfl,hbk,hbZ,hcell⟩:∃b off,rv=some ⟨b,off,none⟩/\b<wr.heap.size/\¬Zr b/\∀(t:Nat) (r:Rm),rs[t]?=some r->wr.cell? ⟨b,off+t,none⟩=some r.val:=by
      rcases hRr.2 with e | e
      ·rw[e]at hrq;cases hrq
      ·exact e
     have c1:=hcell q r hrq
     have htk:(rs.map Rm.out).take (q+1)=(rs.map Rm.out).take q++[r.out]:=by
      rw[List.take_add_one,List.getElem?_map,hrq]
      rfl
     have hlt:((rs.map Rm.out).take q).length=q:=by rw[List.length_take,List.length_map];omega
     have hcm:cs1++recCmds (fr+1+s1.used) s1.life ((rs.map Rm.out).take (q+1))=(cs1++recCmds (fr+1+s1.used) s1.life ((rs.map Rm.out).take q))++[.wr (fr+1+s1.used+q) (stampZ r.out.1 (s1.life:Int) r.out.2)]:=by
      rw[htk,recCmds_snoc,hlt,List.append_assoc]
     have e7:=d.runs_snoc hz (.wr (fr+1+s1.used+q) (stampZ r.out.1 (s1.life:Int) r.out.2))
     rw[<- hcm]at e7
     have hpl:=d.runs_puts (cs1++recCmds (fr+1+s1.used) s1.life ((rs.map Rm.out).take q))
     rw[List.length_append,length_recCmds,hlt]at hpl
     have hko:0<=r.out.1/\r.out.1<256:=by unfold Rm.out;simp only;split <;> omega
     have hrdr:=hRr.1 r (List.mem_of_getElem? hrq)
     have HWr:Hid (∀w3,Below wr.heap.size wr w3->Calls Tryz.prog 136 #[.pointer (some ⟨j,0,none⟩),.int .i64 (((fr:Int)+1)+((s1.used:Int)+(q:Int))),r.val] w3 fun e w'=>e=.returned (.int .i64 (d.runs (cs1++recCmds (fr+1+s1.used) s1.life ((rs.map Rm.out).take (q+1)))).1)/\(∃Z',Jq Z' w' j c p room nb K fr bl (d.runs (cs1++recCmds (fr+1+s1.used) s1.life ((rs.map Rm.out).take (q+1)))).2 s1/\Gr (fun k=>Zr k/\k<wr.heap.size) Z' w3)/\But (fun k=>Zr k/\k<wr.heap.size) w3 w'):=fun w3 b3=>by
      have q9:=writeRecord_of (hJr.cut.below b3) (by omega) (fr+1+s1.used+q) (by omega) r.val (stampZ r.out.1 (s1.life:Int) r.out.2) (length_stampZ rB) (isB_stampZ hko hrdr.2.1) (stamped_rec HN1.out.life r rT rB w3 ((hrdr.rd.below b3).mono b3.size))
      rw[show (((fr+1+s1.used+q:Nat)):Int)=((fr:Int)+1)+((s1.used:Int)+(q:Int)) by omega]at q9
      rw[e7]
      exact q9
     obtain⟨mvr,hJbr,_⟩:=hJr.cells
     have j1:=hJbr.cell 1
     have j2:=hJbr.cell 2
     have j5:=hJbr.cell 5
     simp at j1 j2 j5
     have hjl:=hJbr.lt
     have hwq:IntKind.i64.wrap ((s1.used:Int)+(q:Int))=(s1.used:Int)+(q:Int):=by rw[IntKind.wrap_i64];omega
     have HLB:=hid (jlogBlock_any (fr:Int) (bl:Int) ((s1.used:Int)+(q:Int)) (by omega) (by omega) (by omega) (by omega) wr.drew)
     have KK:=hid (And.intro hGr (And.intro hBt hRr))
     obtain⟨tl,htl⟩:=recCmds_take (base:=fr+1+s1.used) (life:=s1.life) (rs:=rs.map Rm.out) (q:=q+1)
     have HTL:=hid htl
     clear hcell hrq rT rB hbZ htk hlt hcm e7 hpl hko hrdr hJr hGr hRr hBt hJbr hz htl
     go_wp2_with fail
     go_region_held3 (fun w'=>w'.cell? ⟨j,1,none⟩=some (.int .i64 (fr:Int))/\w'.cell? ⟨j,2,none⟩=some (.int .i64 (bl:Int))/\w'.cell? ⟨j,5,none⟩=some (.int .i64 (s1.used:Int))) (first | (exact⟨by assumption,by assumption,by assumption⟩) | go_keep) (first
      | (go_at_call 137;refine Calls.mono HLB.out ?_;rintro e w3 ⟨rfl,b3⟩;have B3:Hid (Below wr.heap.size wr w3):=⟨b3.os,b3.tape,b3.output,b3.size,b3.block⟩;have n1:=(B3.out.cell (p:=⟨j,1,none⟩) hjl).trans j1;have n2:=(B3.out.cell (p:=⟨j,2,none⟩) hjl).trans j2;have n5:=(B3.out.cell (p:=⟨j,5,none⟩) hjl).trans j5;clear b3)
      | (go_at_call 136;refine Calls.mono (HWr.out _ B3.out) ?_;rintro e w4 ⟨rfl,⟨Z4,hJ4,hG4⟩,b4⟩;obtain⟨mv4,hJb4,_⟩:=hJ4.cells;have q1:=hJb4.cell 1;have q2:=hJb4.cell 2;have q5:=hJb4.cell 5;simp at q1 q2 q5;have FIN0:=hid (And.intro hJ4 (And.intro hG4 b4));clear hJ4 hG4 b4 hJb4))
     obtain⟨hJ4,hG4,b4⟩:=FIN0.out
     obtain⟨hGr,hBt,hRr⟩:=KK.out
     have hs3:=B3.out.size
     have bb:But Zr wr w4:=(But.of_below B3.out).comp b4 (fun k _ r=>r.1)
     have gg:Gr Zr Z4 wr:=fun k hk r=>(hG4 k (by omega) r).1
     have FIN:=hid (And.intro hJ4 (And.intro (hGr.trans gg hBt.size) (And.intro (hRr.but bb (fun k _ r=>r) Z4 gg) (hBt.comp bb (fun k hk r=>hGr k hk r)))))
     clear hJ4 hG4 b4 hGr hBt hRr bb gg hs3 FIN0 KK B3 HWr HLB n1 n2 n5 q1 q2 q5 j1 j2 j5 c1
     generalize hcd:d.runs (cs1++recCmds (fr+1+s1.used) s1.life ((rs.map Rm.out).take (q+1)))=rr at *
     obtain⟨code,d'⟩:=rr
     by_cases hc:code=0
     ·subst hc
      go_wp2_with fail
      go_roundw
      case rel=>exact⟨q+1,by omega,by go_num,by rw[hcd],⟨Z4,by rw[hcd];exact FIN.out.1,FIN.out.2.1,FIN.out.2.2.1⟩,FIN.out.2.2.2⟩
      case measure=>simp[intOf];omega
     ·have hst:d.runs (cs1++recCmds (fr+1+s1.used) s1.life (rs.map Rm.out))=(code,d'):=by
       rw[HTL.out,<- List.append_assoc,Pd.runs_stop (by rw[hcd];exact hc),hcd]
      have FIN2:Hid (Did Z w j c p room nb K fr bl d cs2 sE (.returned (.int .i64 code)) w4):=by
       rw[HCS.out]
       unfold Did
       rw[hst]
       exact⟨rfl,⟨Z4,s1,FIN.out.1,fun r=>absurd r hc,FIN.out.2.1⟩,FIN.out.2.2.2⟩
      clear hst HTL FIN
      go_wp2
      go_ret
      exact FIN2.out
    ·have hqn':¬(q:Int)<(N:Int):=by omega
     have hqe:(rs.map Rm.out).take q=rs.map Rm.out:=List.take_of_length_le (by rw[List.length_map];omega)
     rw[hqe]at hz hJr
     obtain⟨Zc,m,n,D,a,hW⟩:=hJr
     have j5:=hW.jb.cell 5
     have f5:=hW.jb.frozen 5
     simp at j5
     have hwr:IntKind.i64.wrap ((s1.used:Int)+(N:Int))=(s1.used:Int)+(N:Int):=by rw[IntKind.wrap_i64];omega
     obtain⟨w5,hw5⟩:∃w5,w5=wr.setCell ⟨j,5,none⟩ (.int .i64 ((s1.used:Int)+(N:Int))):=⟨_,rfl⟩
     have J5:Jb w5 j c fr bl s1.life s1.seq ((s1.used:Int)+(N:Int)) (.map (some m)):=by rw[hw5];simpa [Jb] using hW.jb.set 5 (.int .i64 ((s1.used:Int)+(N:Int)))
     have bb:But (fun k=>k=j) wr w5:=by rw[hw5];exact (But.refl (fun y=>y=j) wr).setCell (p:=⟨j,5,none⟩) (show (fun y=>y=j) j from rfl) _
     have hzj:=hW.zj
     have FIN:Hid (Did Z w j c p room nb K fr bl d cs2 sE (.returned (.int .i64 0)) w5):=by
      rw[HCS.out]
      refine⟨by rw[hz],⟨Zr,sE,⟨Zc,m,n,D,a,?_⟩,fun _=>rfl,hGr⟩,hBt.comp bb (fun k hk e=>by rw[e];exact hGr j (by rw[<- e];exact hk) hzj)⟩
      rw[HSE.out]
      exact hW.rejb (s':=⟨s1.life,s1.seq,s1.used+N,s1.ah⟩) bb (by simpa using J5) rfl
     clear hW hGr hBt hRr J5 bb hzj hqe hz
     go_wp2
     go_ret
     rw[<- hw5]
     exact FIN.out
  ·have FIN:Hid (Did Z w j c p room nb K fr bl d cs2 sE (.returned (.int .i64 (d.runs cs1).1)) w4):=by
    rw[HCS.out]
    unfold Did
    rw[Pd.runs_stop hc]
    exact⟨rfl,⟨Z4,s4,hJ4,fun r=>absurd r hc,fun k hk r=>(hG4 k (by omega) r).1⟩,hD0.2.2⟩
   generalize (d.runs cs1).1=code at *
   clear hJ4 hs4 hG4 b4 hD0 hRR HSt HH
   go_wp2
   go_ret
   exact FIN.out
 ·have hx:¬((bl-1:Nat):Int)<(s.used:Int)+(N:Int):=by omega
  rw[if_neg hbig]at hcs2
  have hs1:wlS bl s N=s:=if_neg hbig
  rw[hs1]at hcs2
  have HSE:Hid (sE=⟨s.life,s.seq,s.used+N,s.ah⟩):=by rw[hsE];unfold wlE;rw[hs1];exact hid rfl
  have hus1:s.used+N+1<=bl:=by omega
  obtain⟨cs1,hcs1⟩:∃cs1:List Cmd,cs1=[]:=⟨_,rfl⟩
  rw[<- hcs1]at hcs2
  have hpl2:cs1.length<=nb+bl+7:=by rw[hcs1];exact Nat.zero_le _
  have HC1:=hid hcs1
  have HCS:=hid hcs2
  have HN1:=hid HH.out.2.1
  clear hs1 hsE hcs2 hbig hcs1
  generalize bl-1=L at *
  go_enter Tryz.func81,Tryz.ntmps81
  go_wp2_with fail
  go_region_held3 (fun w'=>w'.cell? ⟨j,1,none⟩=some (.int .i64 (fr:Int))/\w'.cell? ⟨j,2,none⟩=some (.int .i64 (bl:Int))/\w'.cell? ⟨j,5,none⟩=some (.int .i64 (s.used:Int))) (first | (exact⟨by assumption,by assumption,by assumption⟩) | go_keep) (first
   | (go_at_call 135;refine Calls.mono HA.out ?_;rintro e w3 ⟨rfl,b3⟩;have B3:Hid (Below w.heap.size w w3):=⟨b3.os,b3.tape,b3.output,b3.size,b3.block⟩;have n1:=(B3.out.cell (p:=⟨j,1,none⟩) hjl).trans j1;have n2:=(B3.out.cell (p:=⟨j,2,none⟩) hjl).trans j2;have n5:=(B3.out.cell (p:=⟨j,5,none⟩) hjl).trans j5;clear b3))
  have hs3:=B3.out.size
  have H1:Hid ((d.runs cs1).1=0/\(∃Zr,Jq Zr w3 j c p room nb K fr bl (d.runs cs1).2 s/\Gr Z Zr w/\RdR Zr w3 rv rs)/\But Z w w3):=by
   rw[HC1.out]
   exact⟨rfl,⟨_,HH.out.1.cut.below B3.out,fun k hk r=>r.1,HH.out.2.2.but (But.of_below B3.out (X:=fun _=>False)) (fun k _ r=>r.elim) _ (fun k _ r=>r.1)⟩,But.of_below B3.out⟩
  clear HH hs3 B3 HA n1 n2 n5 j1 j2 j5 HC1
  go_wp2_with fail
  go_loopw [29] (fun iv wr=>∃q:Nat,q<=N/\iv=.int .i64 (q:Int)/\(d.runs (cs1++recCmds (fr+1+s.used) s.life ((rs.map Rm.out).take q))).1=0/\(∃Zr,Jq Zr wr j c p room nb K fr bl (d.runs (cs1++recCmds (fr+1+s.used) s.life ((rs.map Rm.out).take q))).2 s/\Gr Z Zr w/\RdR Zr wr rv rs)/\But Z w wr) (fun iv _=>N-(intOf iv).toNat)
  case atStart=>exact⟨0,Nat.zero_le _,rfl,by simpa [recCmds] using H1.out.1,by simpa [recCmds] using H1.out.2.1,H1.out.2.2⟩
  case round=>
   clear H1
   obtain⟨q,hq,rfl,hz,⟨Zr,hJr,hGr,hRr⟩,hBt⟩:=hrel
   by_cases hqn:q<N
   ·have hqn':(q:Int)<(N:Int):=by omega
    obtain⟨r,hrq⟩:∃r,rs[q]?=some r:=⟨_,List.getElem?_eq_getElem (by omega)⟩
    obtain⟨rT,rB⟩:=HRS.out r (List.mem_of_getElem? hrq)
    obtain⟨bk,off,rfl,hbk,hbZ,hcell⟩:∃b off,rv=some ⟨b,off,none⟩/\b<wr.heap.size/\¬Zr b/\∀(t:Nat) (r:Rm),rs[t]?=some r->wr.cell? ⟨b,off+t,none⟩=some r.val:=by
     rcases hRr.2 with e | e
     ·rw[e]at hrq;cases hrq
     ·exact e
    have c1:=hcell q r hrq
    have htk:(rs.map Rm.out).take (q+1)=(rs.map Rm.out).take q++[r.out]:=by
     rw[List.take_add_one,List.getElem?_map,hrq]
     rfl
    have hlt:((rs.map Rm.out).take q).length=q:=by rw[List.length_take,List.length_map];omega
    have hcm:cs1++recCmds (fr+1+s.used) s.life ((rs.map Rm.out).take (q+1))=(cs1++recCmds (fr+1+s.used) s.life ((rs.map Rm.out).take q))++[.wr (fr+1+s.used+q) (stampZ r.out.1 (s.life:Int) r.out.2)]:=by
     rw[htk,recCmds_snoc,hlt,List.append_assoc]
    have e7:=d.runs_snoc hz (.wr (fr+1+s.used+q) (stampZ r.out.1 (s.life:Int) r.out.2))
    rw[<- hcm]at e7
    have hpl:=d.runs_puts (cs1++recCmds (fr+1+s.used) s.life ((rs.map Rm.out).take q))
    rw[List.length_append,length_recCmds,hlt]at hpl
    have hko:0<=r.out.1/\r.out.1<256:=by unfold Rm.out;simp only;split <;> omega
    have hrdr:=hRr.1 r (List.mem_of_getElem? hrq)
    have HWr:Hid (∀w3,Below wr.heap.size wr w3->Calls Tryz.prog 136 #[.pointer (some ⟨j,0,none⟩),.int .i64 (((fr:Int)+1)+((s.used:Int)+(q:Int))),r.val] w3 fun e w'=>e=.returned (.int .i64 (d.runs (cs1++recCmds (fr+1+s.used) s.life ((rs.map Rm.out).take (q+1)))).1)/\(∃Z',Jq Z' w' j c p room nb K fr bl (d.runs (cs1++recCmds (fr+1+s.used) s.life ((rs.map Rm.out).take (q+1)))).2 s/\Gr (fun k=>Zr k/\k<wr.heap.size) Z' w3)/\But (fun k=>Zr k/\k<wr.heap.size) w3 w'):=fun w3 b3=>by
     have q9:=writeRecord_of (hJr.cut.below b3) (by omega) (fr+1+s.used+q) (by omega) r.val (stampZ r.out.1 (s.life:Int) r.out.2) (length_stampZ rB) (isB_stampZ hko hrdr.2.1) (stamped_rec HN1.out.life r rT rB w3 ((hrdr.rd.below b3).mono b3.size))
     rw[show (((fr+1+s.used+q:Nat)):Int)=((fr:Int)+1)+((s.used:Int)+(q:Int)) by omega]at q9
     rw[e7]
     exact q9
    obtain⟨mvr,hJbr,_⟩:=hJr.cells
    have j1:=hJbr.cell 1
    have j2:=hJbr.cell 2
    have j5:=hJbr.cell 5
    simp at j1 j2 j5
    have hjl:=hJbr.lt
    have hwq:IntKind.i64.wrap ((s.used:Int)+(q:Int))=(s.used:Int)+(q:Int):=by rw[IntKind.wrap_i64];omega
    have HLB:=hid (jlogBlock_any (fr:Int) (bl:Int) ((s.used:Int)+(q:Int)) (by omega) (by omega) (by omega) (by omega) wr.drew)
    have KK:=hid (And.intro hGr (And.intro hBt hRr))
    obtain⟨tl,htl⟩:=recCmds_take (base:=fr+1+s.used) (life:=s.life) (rs:=rs.map Rm.out) (q:=q+1)
    have HTL:=hid htl
    clear hcell hrq rT rB hbZ htk hlt hcm e7 hpl hko hrdr hJr hGr hRr hBt hJbr hz htl
    go_wp2_with fail
    go_region_held3 (fun w'=>w'.cell? ⟨j,1,none⟩=some (.int .i64 (fr:Int))/\w'.cell? ⟨j,2,none⟩=some (.int .i64 (bl:Int))/\w'.cell? ⟨j,5,none⟩=some (.int .i64 (s.used:Int))) (first | (exact⟨by assumption,by assumption,by assumption⟩) | go_keep) (first
     | (go_at_call 137;refine Calls.mono HLB.out ?_;rintro e w3 ⟨rfl,b3⟩;have B3:Hid (Below wr.heap.size wr w3):=⟨b3.os,b3.tape,b3.output,b3.size,b3.block⟩;have n1:=(B3.out.cell (p:=⟨j,1,none⟩) hjl).trans j1;have n2:=(B3.out.cell (p:=⟨j,2,none⟩) hjl).trans j2;have n5:=(B3.out.cell (p:=⟨j,5,none⟩) hjl).trans j5;clear b3)
     | (go_at_call 136;refine Calls.mono (HWr.out _ B3.out) ?_;rintro e w4 ⟨rfl,⟨Z4,hJ4,hG4⟩,b4⟩;obtain⟨mv4,hJb4,_⟩:=hJ4.cells;have q1:=hJb4.cell 1;have q2:=hJb4.cell 2;have q5:=hJb4.cell 5;simp at q1 q2 q5;have FIN0:=hid (And.intro hJ4 (And.intro hG4 b4));clear hJ4 hG4 b4 hJb4))
    obtain⟨hJ4,hG4,b4⟩:=FIN0.out
    obtain⟨hGr,hBt,hRr⟩:=KK.out
    have hs3:=B3.out.size
    have bb:But Zr wr w4:=(But.of_below B3.out).comp b4 (fun k _ r=>r.1)
    have gg:Gr Zr Z4 wr:=fun k hk r=>(hG4 k (by omega) r).1
    have FIN:=hid (And.intro hJ4 (And.intro (hGr.trans gg hBt.size) (And.intro (hRr.but bb (fun k _ r=>r) Z4 gg) (hBt.comp bb (fun k hk r=>hGr k hk r)))))
    clear hJ4 hG4 b4 hGr hBt hRr bb gg hs3 FIN0 KK B3 HWr HLB n1 n2 n5 q1 q2 q5 j1 j2 j5 c1
    generalize hcd:d.runs (cs1++recCmds (fr+1+s.used) s.life ((rs.map Rm.out).take (q+1)))=rr at *
    obtain⟨code,d'⟩:=rr
    by_cases hc:code=0
    ·subst hc
     go_wp2_with fail
     go_roundw
     case rel=>exact⟨q+1,by omega,by go_num,by rw[hcd],⟨Z4,by rw[hcd];exact FIN.out.1,FIN.out.2.1,FIN.out.2.2.1⟩,FIN.out.2.2.2⟩
     case measure=>simp[intOf];omega
    ·have hst:d.runs (cs1++recCmds (fr+1+s.used) s.life (rs.map Rm.out))=(code,d'):=by
      rw[HTL.out,<- List.append_assoc,Pd.runs_stop (by rw[hcd];exact hc),hcd]
     have FIN2:Hid (Did Z w j c p room nb K fr bl d cs2 sE (.returned (.int .i64 code)) w4):=by
      rw[HCS.out]
      unfold Did
      rw[hst]
      exact⟨rfl,⟨Z4,s,FIN.out.1,fun r=>absurd r hc,FIN.out.2.1⟩,FIN.out.2.2.2⟩
     clear hst HTL FIN
     go_wp2
     go_ret
     exact FIN2.out
   ·have hqn':¬(q:Int)<(N:Int):=by omega
    have hqe:(rs.map Rm.out).take q=rs.map Rm.out:=List.take_of_length_le (by rw[List.length_map];omega)
    rw[hqe]at hz hJr
    obtain⟨Zc,m,n,D,a,hW⟩:=hJr
    have j5:=hW.jb.cell 5
    have f5:=hW.jb.frozen 5
    simp at j5
    have hwr:IntKind.i64.wrap ((s.used:Int)+(N:Int))=(s.used:Int)+(N:Int):=by rw[IntKind.wrap_i64];omega
    obtain⟨w5,hw5⟩:∃w5,w5=wr.setCell ⟨j,5,none⟩ (.int .i64 ((s.used:Int)+(N:Int))):=⟨_,rfl⟩
    have J5:Jb w5 j c fr bl s.life s.seq ((s.used:Int)+(N:Int)) (.map (some m)):=by rw[hw5];simpa [Jb] using hW.jb.set 5 (.int .i64 ((s.used:Int)+(N:Int)))
    have bb:But (fun k=>k=j) wr w5:=by rw[hw5];exact (But.refl (fun y=>y=j) wr).setCell (p:=⟨j,5,none⟩) (show (fun y=>y=j) j from rfl) _
    have hzj:=hW.zj
    have FIN:Hid (Did Z w j c p room nb K fr bl d cs2 sE (.returned (.int .i64 0)) w5):=by
     rw[HCS.out]
     refine⟨by rw[hz],⟨Zr,sE,⟨Zc,m,n,D,a,?_⟩,fun _=>rfl,hGr⟩,hBt.comp bb (fun k hk e=>by rw[e];exact hGr j (by rw[<- e];exact hk) hzj)⟩
     rw[HSE.out]
     exact hW.rejb (s':=⟨s.life,s.seq,s.used+N,s.ah⟩) bb (by simpa using J5) rfl
    clear hW hGr hBt hRr J5 bb hzj hqe hz
    go_wp2
    go_ret
    rw[<- hw5]
    exact FIN.out
open Go.RowKit
def standStep (S:List Pm) (p:Pm):List Pm:=match S.findIdx? (fun q=>q.at_ == p.at_) with
 | some i=>S.set i p
 | none=>S++[p]
def standP (ps:List Pm):List Pm:=ps.foldl standStep []
theorem standP_snoc(ps:List Pm)(p:Pm):standP (ps++[p])=standStep (standP ps) p:=by
 unfold standP
 rw[List.foldl_append]
 rfl
theorem pmCells_length(ps:List Pm):(pmCells ps).length=ps.length * 2:=by
 induction ps with
 | nil=>rfl
 | cons p ps ih=>
  show ([_,_]++pmCells ps).length=_
  rw[List.length_append,ih]
  simp
  omega
theorem pmCells_get(ps:List Pm)(i:Nat)(p:Pm)(h:ps[i]?=some p):(pmCells ps)[i * 2]?=some (.int .i64 p.at_)/\(pmCells ps)[i * 2+1]?=some (.slice p.ad p.data.length p.cap):=by
 induction ps generalizing i with
 | nil=>cases h
 | cons q ps ih=>
  show ([_,_]++pmCells ps)[i * 2]?=_/\([_,_]++pmCells ps)[i * 2+1]?=_
  rcases i with _ | i
  ·simp at h
   subst h
   exact⟨rfl,rfl⟩
  ·have:=ih i (by simpa using h)
   rw[show (i+1) * 2=i * 2+2 by omega]
   exact this
theorem pmCells_set(ps:List Pm)(i:Nat)(p:Pm):((pmCells ps).set (i * 2) (.int .i64 p.at_)).set (i * 2+1) (.slice p.ad p.data.length p.cap)=pmCells (ps.set i p):=by
 induction ps generalizing i with
 | nil=>rfl
 | cons q ps ih=>
  rcases i with _ | i
  ·rfl
  ·have:=ih i
   rw[show (i+1) * 2=i * 2+2 by omega,show i * 2+2+1=i * 2+1+2 by omega]
   show _ :: _ :: ((pmCells ps).set (i * 2) _).set (i * 2+1) _=_
   rw[this]
   rfl
structure SM (D:DataW Unit) (S:List Pm):Prop where
 im:Maps.IsMap D
 hit:∀(i:Nat) (p:Pm),S[i]?=some p->Maps.has D (.int .i64 p.at_)=true/\D.atKey (.int .i64 p.at_) (.lit (.int .i64 0))=.lit (.int .i64 (i:Int))
 miss:∀x:Int,(∀p∈S,p.at_≠x)->Maps.has D (.int .i64 x)=false
theorem SM.push{D:DataW Unit}{S:List Pm}(h:SM D S)(p:Pm)(hn:∀q∈S,q.at_≠p.at_):SM (D.put (.int .i64 p.at_) (.lit (.int .i64 (S.length:Int)))) (S++[p]):=by
 have hk:WideAt.IsKeyLit (.int .i64 p.at_):=trivial
 refine⟨h.im.put _ _,fun i q hq=>?_,fun x hx=>?_⟩
 ·by_cases hi:i<S.length
  ·rw[List.getElem?_append_left hi]at hq
   have hne:(Lit.int .i64 q.at_)≠.int .i64 p.at_:=fun e=>hn q (List.mem_of_getElem? hq) (by injection e)
   rw[Maps.has_put_other hne,Maps.atKey_put_other hne]
   exact h.hit i q hq
  ·rw[List.getElem?_append_right (by omega)]at hq
   have hi2:i=S.length:=by
    have:i-S.length<[p].length:=by
     rcases List.getElem?_eq_some_iff.1 hq with ⟨r,_⟩
     exact r
    simp at this
    omega
   subst hi2
   simp at hq
   subst hq
   exact⟨Maps.has_put_same h.im hk _,Maps.atKey_put_same h.im hk _ _⟩
 ·have hne:(Lit.int .i64 x)≠.int .i64 p.at_:=fun q=>hx p (by simp) (by injection q with _ q;exact q.symm)
  rw[Maps.has_put_other hne]
  exact h.miss x (fun q hq=>hx q (by simp[hq]))
theorem SM.set{D:DataW Unit}{S:List Pm}(h:SM D S)(p q:Pm)(i:Nat)(hi:S[i]?=some q)(hq:q.at_=p.at_):SM D (S.set i p):=by
 have hl:=(List.getElem?_eq_some_iff.1 hi).1
 refine⟨h.im,fun k r hr=>?_,fun x hx=>h.miss x (fun r hr=>?_)⟩
 ·by_cases e:i=k
  ·subst e
   rw[List.getElem?_set_self hl]at hr
   cases hr
   rw[<- hq]
   exact h.hit i q hi
  ·rw[List.getElem?_set_ne e]at hr
   exact h.hit k r hr
 ·obtain⟨k,hk⟩:=List.mem_iff_getElem?.1 hr
  by_cases e:i=k
  ·subst e
   rw[hi]at hk
   cases hk
   rw[hq]
   exact hx p (List.mem_iff_getElem?.2 ⟨i,by rw[List.getElem?_set_self hl]⟩)
  ·exact hx r (List.mem_iff_getElem?.2 ⟨k,by rw[List.getElem?_set_ne e];exact hk⟩)
theorem standStep_hit{S:List Pm}{p:Pm}(h:S.findIdx? (fun q=>q.at_ == p.at_)=some i):standStep S p=S.set i p/\∃q,S[i]?=some q/\q.at_=p.at_:=by
 refine⟨by unfold standStep;rw[h],?_⟩
 obtain⟨hl,hq,_⟩:=List.findIdx?_eq_some_iff_getElem.1 h
 exact⟨S[i],List.getElem?_eq_getElem hl,by simpa using hq⟩
theorem standStep_miss{S:List Pm}{p:Pm}(h:S.findIdx? (fun q=>q.at_ == p.at_)=none):standStep S p=S++[p]/\∀q∈S,q.at_≠p.at_:=by
 refine⟨by unfold standStep;rw[h],fun q hq=>?_⟩
 have:=List.findIdx?_eq_none_iff.1 h q hq
 simpa using this
theorem row_ne_mapI{base g:Nat}{D:DataW Unit}(h:w.ownsRow base e 2 (.slice (some ⟨g,0,none⟩) n c) n xs)(hm:w.ownsMap Tryz.prog 3 (plainElem Tryz.prog 3) m k D):g≠m:=fun q=>by
 obtain⟨c2,hc2⟩:=row_kind h (g:=g) rfl
 obtain⟨es,ck,hb,_⟩:=hm
 rw[q,hb]at hc2
 cases hc2
theorem row_last{base g4 cap4 L:Nat}{v0:Value}(h:w3.ownsRow base 144 2 (.slice (some ⟨g4,0,none⟩) (L+1) cap4) (L+1) (xs++[v0,v1]))(hx:xs.length=L * 2):w3.cell? ⟨g4,L * 2,none⟩=some v0/\w3.cell? ⟨g4,L * 2+1,none⟩=some v1/\w3.frozen? ⟨g4,L * 2,none⟩=false/\w3.frozen? ⟨g4,L * 2+1,none⟩=false:=by
 refine⟨?_,?_,h.frozenAt _,h.frozenAt _⟩
 ·rw[h.cellAt _ (by omega),<- hx]
  simp
 ·rw[h.cellAt _ (by omega),<- hx]
  simp
theorem mapI_keep{D:DataW Unit}(h:w.ownsMap Tryz.prog 3 (plainElem Tryz.prog 3) mp n D)(hk:w'.heap[mp]?=w.heap[mp]?):w'.ownsMap Tryz.prog 3 (plainElem Tryz.prog 3) mp n D:=by
 obtain⟨es,ck,hb,hr⟩:=h
 exact⟨es,ck,hk.trans hb,hr⟩
end Go.Proofs.YtlefjidbpjkhlaaGreat
