import Derived.Test.YtlefjidbpjkhlaaGreatK14
import Derived.Lib.AppendZeros
set_option maxRecDepth 100000
set_option maxHeartbeats 16000000
namespace Go.Proofs.YtlefjidbpjkhlaaGreat
variable {B K N bl c i j n p:Nat}
variable {ps:List Pm}
variable {X Z:Nat->Prop}
variable {w w':World}
variable {d:Pd}
variable {s:Js}
variable {a:Option Addr}
variable {zs:List Int}
variable {fv:Value}
open Go.RowKit
def okFound (nb fr bl seq:Nat) (zs:List Int):Bool:=(decide (zs.length % 515=0) && decide ((seq:Int)<1099511627776)) && (putsZ zs).all fun p=>decide (homeC nb fr bl (p.1:Int)=0)
theorem okAll_eq{nb fr:Nat}{ys:List (Nat×List Int)}(h:ps.map Pm.put=ys)(hp:∀p∈ps,0<=p.at_/\p.data.length=512):(ps.all fun p=>decide (putC nb fr bl p.at_ p.data.length=0))=ys.all fun p=>decide (homeC nb fr bl (p.1:Int)=0):=by
 subst h
 induction ps with
 | nil=>rfl
 | cons p ps ih=>
  obtain⟨h0,h1⟩:=hp p (by simp)
  have e:decide (putC nb fr bl p.at_ p.data.length=0)=decide (homeC nb fr bl ((p.at_.toNat:Nat):Int)=0):=by
   rw[Int.toNat_of_nonneg h0]
   unfold putC
   by_cases q:homeC nb fr bl p.at_=0
   ·simp[q,h1]
   ·simp[q]
  simp only[List.map_cons,List.all_cons]
  rw[ih (fun x hx=>hp x (by simp[hx])),e]
  rfl
theorem rdp_of_owns{pv:Option Addr}{cq:Nat}(hrow:w.ownsRow B 144 2 (.slice pv N cq) N (pmCells ps))(hl:ps.length=N)(hX:∀k,B<=k->¬X k)(hd:∀p∈ps,RdN X w p.ad p.data.length p.data):RdP X w pv ps:=by
 refine⟨hd,?_⟩
 by_cases h0:ps=[]
 ·exact .inl h0
 ·refine .inr ?_
  rcases hrow.2 with ⟨e,q⟩ | ⟨g,cap,cur,e,hB,hh,_,_,_,hcur⟩
  ·exact absurd (List.length_eq_zero_iff.1 (by omega)) h0
  ·simp at e
   obtain⟨rfl,rfl⟩:=e
   refine⟨g,0,rfl,(Array.getElem?_eq_some_iff.1 hh).1,hX g hB,fun t p hp=>?_⟩
   have ht:t<ps.length:=(List.getElem?_eq_some_iff.1 hp).1
   have hcl:(pmCells ps)[t * 2]?=some (.int .i64 p.at_)/\(pmCells ps)[t * 2+1]?=some (.slice p.ad p.data.length p.cap):=by
    clear hrow hcur hl hd h0
    induction ps generalizing t with
    | nil=>cases hp
    | cons x xs ih=>
     cases t with
     | zero=>
      simp at hp
      subst hp
      exact⟨rfl,rfl⟩
     | succ t=>
      have:=ih t (by simpa using hp) (by simpa using ht)
      have e1:pmCells (x :: xs)=[.int .i64 x.at_,.slice x.ad x.data.length x.cap]++pmCells xs:=rfl
      rw[e1,show (t+1) * 2=2+t * 2 by omega,List.getElem?_append_right (by simp),show 2+t * 2+1=2+(t * 2+1) by omega,List.getElem?_append_right (by simp)]
      simpa using this
   have hw:=World.ownsRow.cellAt hrow
   have hlen:(pmCells ps).length=N * 2:=hrow.1
   have c1:=hw (t * 2) (by omega)
   have c2:=hw (t * 2+1) (by omega)
   rw[Nat.zero_add]
   exact⟨c1.trans hcl.1,c2.trans hcl.2⟩
def foundS (s:Js) (zs:List Int):Bool->Js
 | true=>⟨s.life,s.seq+1,s.used,aheadP s.ah (putsZ zs)⟩
 | false=>s
def okSo (nb fr bl:Nat) (b0:Bool) (ps:List Pm):Bool:=b0 && ps.all fun p=>decide (putC nb fr bl p.at_ p.data.length=0)
theorem okSo_snoc(nb fr bl:Nat)(b0:Bool)(ps:List Pm)(p:Pm):okSo nb fr bl b0 (ps++[p])=(okSo nb fr bl b0 ps && decide (putC nb fr bl p.at_ p.data.length=0)):=by
 unfold okSo
 rw[List.all_append,<- Bool.and_assoc]
 simp
theorem takeFound_any{room nb fr:Nat}(h:Jq Z w j c p room nb K fr bl d s)(h1:fr+bl<=nb)(a:Option Addr)(n cp:Nat)(zs:List Int)(hR:RdN Z w a n zs)(hcp:n<=cp)(hn:n<=1073741823) :
  Calls Tryz.prog 166 #[.pointer (some ⟨j,0,none⟩),.slice a n cp] w fun e w'=>e=.returned (.bool (okFound nb fr bl s.seq zs))/\(∃Z',Jq Z' w' j c p room nb K fr bl d (foundS s zs (okFound nb fr bl s.seq zs))/\Gr Z Z' w)/\But Z w w':=by
 have HP:=hid (putsOf_any Z a n cp zs w hR hcp hn)
 have hln:=hR.1
 have HJ:=hid h
 clear h hR hcp
 go_enter Tryz.func166,Tryz.ntmps166
 go_wp2_with fail
 refine Calls.mono HP.out ?_
 rintro e w1 ⟨pv,ps,cq,rfl,hps,hpl,hpp,hrow,b1⟩
 have hJ1:=HJ.out.cut.below b1
 obtain⟨mv,hJb,_⟩:=hJ1.cells
 have HT:=hid (jtakesMore_any hJb)
 have hRP:RdP (fun k=>Z k/\k<w.heap.size) w1 pv ps:=rdp_of_owns hrow hpl (fun k hk q=>by have:=q.2;omega) (fun p hp=>by
  obtain⟨q0,q1,r1,r2,r3⟩:=hpp p hp
  rw[q1]
  refine⟨r1,r2,?_⟩
  rcases r3 with r3 | ⟨b,off,r4,r5,r6,r7⟩
  ·exact .inl r3
  ·exact .inr ⟨b,off,r4,by have:=b1.size;omega,fun q=>r6 q.1,fun t ht=>(b1.cell (p:=⟨b,off+t,none⟩) r5).trans (r7 t ht)⟩)
 have HPS:=hid (And.intro hps (And.intro hpp hln))
 have HJ1:=hid hJ1
 have HRP:=hid hRP
 have HB1:=hid b1
 generalize hN:n / 515=N at *
 have hN2:N<=1073741823:=by omega
 have hall:=okAll_eq (nb:=nb) (fr:=fr) (bl:=bl) HPS.out.1 (fun p hp=>⟨(HPS.out.2.1 p hp).1,(HPS.out.2.1 p hp).2.1⟩)
 clear hps hpp hrow b1 hJ1 hJb hRP HP HJ
 cases hd1:decide (n % 515=0)
 ·obtain⟨b0,hb0⟩:∃b0,b0=false:=⟨_,rfl⟩
  have HE:Hid (okFound nb fr bl s.seq zs=okSo nb fr bl b0 ps):=by unfold okFound okSo;rw[hln,hd1,hb0,hall];rfl
  have HSQ:Hid (b0=true->s.seq<1099511627776):=fun q=>by rw[hb0]at q;cases q
  clear hall hd1 HT
  go_wp2_with fail
  go_loopw [6,21] (fun okv iv wr=>∃q:Nat,q<=N/\iv=.int .i64 (q:Int)/\okv=.bool (okSo nb fr bl b0 (ps.take q))/\Below w1.heap.size w1 wr) (fun _ iv _=>N-(intOf iv).toNat)
  case atStart=>exact⟨0,Nat.zero_le _,rfl,(by simp[okSo,hb0]),Below.refl _ _⟩
  case round=>
   clear hb0
   obtain⟨q,hq,rfl,rfl,hbt⟩:=hrel
   have hsw:=hbt.size
   by_cases hqn:q<N
   ·have hqn':(q:Int)<(N:Int):=by omega
    obtain⟨pp,hpq⟩:∃pp,ps[q]?=some pp:=⟨_,List.getElem?_eq_getElem (by omega)⟩
    obtain⟨bk,off,rfl,hbk,hbZ,hcell⟩:∃b off,pv=some ⟨b,off,none⟩/\b<w1.heap.size/\¬(Z b/\b<w.heap.size)/\∀(t:Nat) (p:Pm),ps[t]?=some p->w1.cell? ⟨b,off+t * 2,none⟩=some (.int .i64 p.at_)/\w1.cell? ⟨b,off+t * 2+1,none⟩=some (.slice p.ad p.data.length p.cap):=by
     rcases HRP.out.2 with e | e
     ·rw[e]at hpq;cases hpq
     ·exact e
    obtain⟨c1,c2⟩:=hcell q pp hpq
    replace c1:=(hbt.cell (p:=⟨bk,off+q * 2,none⟩) hbk).trans c1
    replace c2:=(hbt.cell (p:=⟨bk,off+q * 2+1,none⟩) hbk).trans c2
    obtain⟨w2,hw2⟩:∃w2,w2=wr.alloc (.cells #[.int .i64 pp.at_,.slice pp.ad pp.data.length pp.cap] 144):=⟨_,rfl⟩
    have b2:Below wr.heap.size wr w2:=by rw[hw2];exact (Below.refl _ _).alloc (Nat.le_refl _) _
    have n0:w2.cell? ⟨wr.heap.size,0,none⟩=some (.int .i64 pp.at_):=by rw[hw2];exact cell_new rfl 0 _ rfl
    have n1:w2.cell? ⟨wr.heap.size,1,none⟩=some (.slice pp.ad pp.data.length pp.cap):=by rw[hw2];exact cell_new rfl 1 _ rfl
    have hok:okSo nb fr bl b0 (ps.take (q+1))=(okSo nb fr bl b0 (ps.take q) && decide (putC nb fr bl pp.at_ pp.data.length=0)):=by
     rw[List.take_add_one,hpq]
     exact okSo_snoc nb fr bl b0 (ps.take q) pp
    have HC:=hid (checkPut_any (HJ1.out.below (hbt.trans (b2.mono hsw))) h1 pp.at_ pp.ad pp.data.length pp.cap)
    have B2:=hid (hbt.trans (b2.mono hsw))
    have HOK:=hid hok
    clear hcell hbt b2 hok hpq
    generalize hpl2:pp.data.length=dl at *
    clear hpl2
    cases hok2:okSo nb fr bl b0 (ps.take q)
    ·go_wp2_with fail
     go_roundw
     case rel=>exact⟨q+1,by omega,by go_num,by rw[HOK.out,hok2];rfl,by rw[<- hw2];exact B2.out⟩
     case measure=>simp[intOf];omega
    ·go_wp2_with fail
     rw[<- hw2]
     refine Calls.mono HC.out ?_
     rintro e w3 ⟨rfl,b3⟩
     have B3:=hid (B2.out.trans (b3.mono B2.out.size))
     clear b3 HC
     by_cases hcz:putC nb fr bl pp.at_ dl=0
     ·have HZ:=hid hcz
      rw[hcz]
      clear hcz hw2 n0 n1 c1 c2
      go_wp2_with fail
      go_roundw
      case rel=>exact⟨q+1,by omega,by go_num,by rw[HOK.out,hok2,HZ.out];rfl,B3.out⟩
      case measure=>simp[intOf];omega
     ·have HZ:=hid hcz
      generalize putC nb fr bl pp.at_ dl=cz at *
      clear hw2 n0 n1 c1 c2
      go_wp2_with fail
      go_roundw
      case rel=>exact⟨q+1,by omega,by go_num,by rw[HOK.out,hok2,decide_eq_false HZ.out,show (cz == 0)=false by simpa using HZ.out];rfl,B3.out⟩
      case measure=>simp[intOf];omega
   ·have hqn':¬(q:Int)<(N:Int):=by omega
    have hqe:ps.take q=ps:=List.take_of_length_le (by omega)
    rw[hqe]
    have HJr:=hid (HJ1.out.below hbt)
    have hbw:Below w.heap.size w wr:=HB1.out.trans (hbt.mono HB1.out.size)
    cases hok2:okSo nb fr bl b0 ps
    ·have FIN:Hid (okFound nb fr bl s.seq zs=false/\(∃Z',Jq Z' wr j c p room nb K fr bl d s/\Gr Z Z' w)/\But Z w wr):=⟨by rw[HE.out,hok2],⟨_,HJr.out,fun k _ r=>r.1⟩,But.of_below hbw⟩
     clear hqe hok2 hbt hbw HJr
     go_wp2
     go_ret
     rw[FIN.out.1]
     exact⟨rfl,FIN.out.2.1,FIN.out.2.2⟩
    ·have hall:(b0 && ps.all fun p=>decide (putC nb fr bl p.at_ p.data.length=0))=true:=hok2
     rw[Bool.and_eq_true]at hall
     have hsq:s.seq<1099511627776:=HSQ.out hall.1
     have hput:∀p∈ps,0<=p.at_/\p.at_<nb/\p.data.length=512:=fun p hp=>by
      have:=List.all_eq_true.1 hall.2 p hp
      simp only[decide_eq_true_eq]at this
      have:=putC_zero this
      exact⟨this.2.1,this.2.2.1,this.1⟩
     have HTk:=hid (take_any HJr.out hsq pv cq ps (HRP.out.but (But.of_below hbt (X:=fun _=>False)) (fun k _ q=>q.elim) _ (fun k _ q=>q)) hput (by omega))
     rw[hpl]at HTk
     have FIN0:=hid (And.intro (show okFound nb fr bl s.seq zs=true by rw[HE.out,hok2]) hbw)
     clear hqe hok2 hbt hbw HJr hall hsq hput
     go_wp2_with fail
     refine Calls.mono HTk.out ?_
     rintro e w3 ⟨rfl,⟨Z3,hJ3,hG3⟩,b3⟩
     have FIN:Hid ((∃Z',Jq Z' w3 j c p room nb K fr bl d ⟨s.life,s.seq+1,s.used,aheadP s.ah (putsZ zs)⟩/\Gr Z Z' w)/\But Z w w3):=by
      have hs:=FIN0.out.2.size
      rw[HPS.out.1]at hJ3
      exact⟨⟨Z3,hJ3,fun k hk r=>(hG3 k (by omega) r).1⟩,(But.of_below FIN0.out.2).comp b3 (fun k _ r=>r.1)⟩
     clear hJ3 hG3 b3 HTk
     go_wp2
     go_ret
     rw[FIN0.out.1]
     exact⟨rfl,FIN.out.1,FIN.out.2⟩
 ·obtain⟨b0,hb0⟩:∃b0,b0=decide ((s.seq:Int)<1099511627776):=⟨_,rfl⟩
  have HE:Hid (okFound nb fr bl s.seq zs=okSo nb fr bl b0 ps):=by unfold okFound okSo;rw[hln,hd1,hb0,hall,Bool.true_and];exact hid rfl
  have HSQ:Hid (b0=true->s.seq<1099511627776):=fun q=>by rw[hb0]at q;have:=of_decide_eq_true q;omega
  rw[<- hb0]at HT
  clear hall hd1
  go_wp2_with fail
  refine Calls.mono HT.out ?_
  rintro e w9 ⟨rfl,hw9⟩
  rw[hw9]
  clear HT hw9
  go_wp2_with fail
  go_loopw [6,21] (fun okv iv wr=>∃q:Nat,q<=N/\iv=.int .i64 (q:Int)/\okv=.bool (okSo nb fr bl b0 (ps.take q))/\Below w1.heap.size w1 wr) (fun _ iv _=>N-(intOf iv).toNat)
  case atStart=>exact⟨0,Nat.zero_le _,rfl,(by simp[okSo,hb0]),Below.refl _ _⟩
  case round=>
   clear hb0
   obtain⟨q,hq,rfl,rfl,hbt⟩:=hrel
   have hsw:=hbt.size
   by_cases hqn:q<N
   ·have hqn':(q:Int)<(N:Int):=by omega
    obtain⟨pp,hpq⟩:∃pp,ps[q]?=some pp:=⟨_,List.getElem?_eq_getElem (by omega)⟩
    obtain⟨bk,off,rfl,hbk,hbZ,hcell⟩:∃b off,pv=some ⟨b,off,none⟩/\b<w1.heap.size/\¬(Z b/\b<w.heap.size)/\∀(t:Nat) (p:Pm),ps[t]?=some p->w1.cell? ⟨b,off+t * 2,none⟩=some (.int .i64 p.at_)/\w1.cell? ⟨b,off+t * 2+1,none⟩=some (.slice p.ad p.data.length p.cap):=by
     rcases HRP.out.2 with e | e
     ·rw[e]at hpq;cases hpq
     ·exact e
    obtain⟨c1,c2⟩:=hcell q pp hpq
    replace c1:=(hbt.cell (p:=⟨bk,off+q * 2,none⟩) hbk).trans c1
    replace c2:=(hbt.cell (p:=⟨bk,off+q * 2+1,none⟩) hbk).trans c2
    obtain⟨w2,hw2⟩:∃w2,w2=wr.alloc (.cells #[.int .i64 pp.at_,.slice pp.ad pp.data.length pp.cap] 144):=⟨_,rfl⟩
    have b2:Below wr.heap.size wr w2:=by rw[hw2];exact (Below.refl _ _).alloc (Nat.le_refl _) _
    have n0:w2.cell? ⟨wr.heap.size,0,none⟩=some (.int .i64 pp.at_):=by rw[hw2];exact cell_new rfl 0 _ rfl
    have n1:w2.cell? ⟨wr.heap.size,1,none⟩=some (.slice pp.ad pp.data.length pp.cap):=by rw[hw2];exact cell_new rfl 1 _ rfl
    have hok:okSo nb fr bl b0 (ps.take (q+1))=(okSo nb fr bl b0 (ps.take q) && decide (putC nb fr bl pp.at_ pp.data.length=0)):=by
     rw[List.take_add_one,hpq]
     exact okSo_snoc nb fr bl b0 (ps.take q) pp
    have HC:=hid (checkPut_any (HJ1.out.below (hbt.trans (b2.mono hsw))) h1 pp.at_ pp.ad pp.data.length pp.cap)
    have B2:=hid (hbt.trans (b2.mono hsw))
    have HOK:=hid hok
    clear hcell hbt b2 hok hpq
    generalize hpl2:pp.data.length=dl at *
    clear hpl2
    cases hok2:okSo nb fr bl b0 (ps.take q)
    ·go_wp2_with fail
     go_roundw
     case rel=>exact⟨q+1,by omega,by go_num,by rw[HOK.out,hok2];rfl,by rw[<- hw2];exact B2.out⟩
     case measure=>simp[intOf];omega
    ·go_wp2_with fail
     rw[<- hw2]
     refine Calls.mono HC.out ?_
     rintro e w3 ⟨rfl,b3⟩
     have B3:=hid (B2.out.trans (b3.mono B2.out.size))
     clear b3 HC
     by_cases hcz:putC nb fr bl pp.at_ dl=0
     ·have HZ:=hid hcz
      rw[hcz]
      clear hcz hw2 n0 n1 c1 c2
      go_wp2_with fail
      go_roundw
      case rel=>exact⟨q+1,by omega,by go_num,by rw[HOK.out,hok2,HZ.out];rfl,B3.out⟩
      case measure=>simp[intOf];omega
     ·have HZ:=hid hcz
      generalize putC nb fr bl pp.at_ dl=cz at *
      clear hw2 n0 n1 c1 c2
      go_wp2_with fail
      go_roundw
      case rel=>exact⟨q+1,by omega,by go_num,by rw[HOK.out,hok2,decide_eq_false HZ.out,show (cz == 0)=false by simpa using HZ.out];rfl,B3.out⟩
      case measure=>simp[intOf];omega
   ·have hqn':¬(q:Int)<(N:Int):=by omega
    have hqe:ps.take q=ps:=List.take_of_length_le (by omega)
    rw[hqe]
    have HJr:=hid (HJ1.out.below hbt)
    have hbw:Below w.heap.size w wr:=HB1.out.trans (hbt.mono HB1.out.size)
    cases hok2:okSo nb fr bl b0 ps
    ·have FIN:Hid (okFound nb fr bl s.seq zs=false/\(∃Z',Jq Z' wr j c p room nb K fr bl d s/\Gr Z Z' w)/\But Z w wr):=⟨by rw[HE.out,hok2],⟨_,HJr.out,fun k _ r=>r.1⟩,But.of_below hbw⟩
     clear hqe hok2 hbt hbw HJr
     go_wp2
     go_ret
     rw[FIN.out.1]
     exact⟨rfl,FIN.out.2.1,FIN.out.2.2⟩
    ·have hall:(b0 && ps.all fun p=>decide (putC nb fr bl p.at_ p.data.length=0))=true:=hok2
     rw[Bool.and_eq_true]at hall
     have hsq:s.seq<1099511627776:=HSQ.out hall.1
     have hput:∀p∈ps,0<=p.at_/\p.at_<nb/\p.data.length=512:=fun p hp=>by
      have:=List.all_eq_true.1 hall.2 p hp
      simp only[decide_eq_true_eq]at this
      have:=putC_zero this
      exact⟨this.2.1,this.2.2.1,this.1⟩
     have HTk:=hid (take_any HJr.out hsq pv cq ps (HRP.out.but (But.of_below hbt (X:=fun _=>False)) (fun k _ q=>q.elim) _ (fun k _ q=>q)) hput (by omega))
     rw[hpl]at HTk
     have FIN0:=hid (And.intro (show okFound nb fr bl s.seq zs=true by rw[HE.out,hok2]) hbw)
     clear hqe hok2 hbt hbw HJr hall hsq hput
     go_wp2_with fail
     refine Calls.mono HTk.out ?_
     rintro e w3 ⟨rfl,⟨Z3,hJ3,hG3⟩,b3⟩
     have FIN:Hid ((∃Z',Jq Z' w3 j c p room nb K fr bl d ⟨s.life,s.seq+1,s.used,aheadP s.ah (putsZ zs)⟩/\Gr Z Z' w)/\But Z w w3):=by
      have hs:=FIN0.out.2.size
      rw[HPS.out.1]at hJ3
      exact⟨⟨Z3,hJ3,fun k hk r=>(hG3 k (by omega) r).1⟩,(But.of_below FIN0.out.2).comp b3 (fun k _ r=>r.1)⟩
     clear hJ3 hG3 b3 HTk
     go_wp2
     go_ret
     rw[FIN0.out.1]
     exact⟨rfl,FIN.out.1,FIN.out.2⟩
open Go.RowKit
theorem app145(ty:TypeId)(a:Option Addr)(n c:Nat)(x:Value)(w:World):(Builtin.append_ #[65,197] ty #[.slice a n c,x]).run Tryz.prog w=(Builtin.append_ #[65,65] ty #[.slice a n c,x]).run Tryz.prog w:=by
 simp[Builtin.append_,run_underlying Tryz.underlying65,run_underlying Tryz.underlying197]
theorem app146(ty:TypeId)(a:Option Addr)(n c:Nat)(x:Value)(w:World):(Builtin.append_ #[65,198] ty #[.slice a n c,x]).run Tryz.prog w=(Builtin.append_ #[65,65] ty #[.slice a n c,x]).run Tryz.prog w:=by
 simp[Builtin.append_,run_underlying Tryz.underlying65,run_underlying Tryz.underlying198]
theorem as5_143(u:Value)(w:World):Sem.run Tryz.prog (Instr.typeAssert (.iface 233 u) 194 197 true) w=.ok (.tuple #[.slice none 0 0,.bool false]) w:=by kernel_rfl
theorem as5_145(u:Value)(w:World):Sem.run Tryz.prog (Instr.typeAssert (.iface 197 u) 194 197 true) w=.ok (.tuple #[u,.bool true]) w:=by kernel_rfl
theorem as5_146(u:Value)(w:World):Sem.run Tryz.prog (Instr.typeAssert (.iface 198 u) 194 197 true) w=.ok (.tuple #[.slice none 0 0,.bool false]) w:=by kernel_rfl
theorem as5_nil(w:World):Sem.run Tryz.prog (Instr.typeAssert .nilIface 194 197 true) w=.ok (.tuple #[.slice none 0 0,.bool false]) w:=by kernel_rfl
theorem as6_143(u:Value)(w:World):Sem.run Tryz.prog (Instr.typeAssert (.iface 233 u) 194 198 true) w=.ok (.tuple #[.slice none 0 0,.bool false]) w:=by kernel_rfl
theorem as6_146(u:Value)(w:World):Sem.run Tryz.prog (Instr.typeAssert (.iface 198 u) 194 198 true) w=.ok (.tuple #[u,.bool true]) w:=by kernel_rfl
theorem as6_nil(w:World):Sem.run Tryz.prog (Instr.typeAssert .nilIface 194 198 true) w=.ok (.tuple #[.slice none 0 0,.bool false]) w:=by kernel_rfl
theorem grow_bytes(ty:TypeId)(ho:w.ownsRow B 5 1 (.slice a n c) n (zs.map (Value.int .u8))){g:Nat}{body:List Int}(hB:Blk .u8 5 w g body)(hb:body.length<=497)(hn:n<=1073741823)(hw:B<=w.heap.size) :
  ∃a' c' w',(Builtin.append_ #[65,65] ty #[.slice a n c,.slice (some ⟨g,0,none⟩) body.length body.length]).run Tryz.prog w=.ok (.slice a' (n+body.length) c') w'/\w'.ownsRow B 5 1 (.slice a' (n+body.length) c') (n+body.length) ((zs++body).map (Value.int .u8))/\But (fun k=>B<=k) w w':=by
 obtain⟨i0,hi,hz0,hz1,hz2⟩:=info_parts info5
 obtain⟨v',w',hr,h2,h3,_,_⟩:=run_append_own_at (P:=Tryz.prog) w B 65 ty 5 i0 (.int .u8 0) 1 1 Tryz.underlying65 hi hz0 hz1 hz2 rfl (by decide) (.slice a n c) n (zs.map (Value.int .u8)) ho ⟨g,0,none⟩ body.length body.length (body.map (Value.int .u8)) (by simp) (fun j u hu=>by
   rw[Addr.add_lit,Nat.zero_add]
   have hj:j<body.length:=by have:=(List.getElem?_eq_some_iff.1 hu).1;simpa using this
   rw[hB.cell j hj]
   simp[hj]at hu
   rw[<- hu]
   simp[hj]) (fun u hu=>by obtain⟨z,_,rfl⟩:=List.mem_map.1 hu;rfl) (by unfold maxLen;omega) (by omega) hw
 obtain⟨a',c',rfl,_⟩:=owns_slice h2
 refine⟨a',c',w',hr,by rw[List.map_append];exact h2,(But.refl _ w).of_grown h3 (fun x e hx=>?_)⟩
 exact (World.ownsRow.lt ho x e).1
theorem rdn_of_owns(ho:w.ownsRow B 5 1 (.slice a n c) n (zs.map (Value.int .u8)))(hb:Pl.isB zs)(hX:∀k,B<=k->¬X k):RdN X w a n zs/\n<=c:=by
 have hl:zs.length=n:=by have:=ho.1;simpa using this
 rcases ho.2 with ⟨e,q⟩ | ⟨g,cap,cur,e,hB,hh,hc,_⟩
 ·cases e
  exact⟨⟨hl,hb,.inl q⟩,by omega⟩
 ·simp at e
  obtain⟨rfl,rfl⟩:=e
  refine⟨⟨hl,hb,.inr ⟨g,0,rfl,(Array.getElem?_eq_some_iff.1 hh).1,hX g hB,fun t ht=>?_⟩⟩,hc⟩
  have:=World.ownsRow.cellAt ho t (by omega)
  rw[Nat.zero_add,this]
  simp[show t<zs.length by omega]
def logScan (nb fr bl:Nat) (rd:Nat->List Int):Nat->Nat->List Int->Js->Js
 | 0,_,_,s=>s
 | k+1,i,found,s=>
  match unZ (rd (fr+1+i)) with
  | none=>s
  | some (kd,l,body)=>
   if l≠(s.life:Int)\/l=0 then s
   else if kd=3 then logScan nb fr bl rd k (i+1) (found++body) s
   else if kd=4 then
    if okFound nb fr bl s.seq (found++body) then logScan nb fr bl rd k (i+1) [] ⟨s.life,s.seq+1,i+1,aheadP s.ah (putsZ (found++body))⟩ else s
   else s
open Go.RowKit
structure Fl (Z:Nat->Prop) (w:World) (j c p room nb K fr bl:Nat) (d:Pd) (life:Nat) (res:Js) (i:Nat) (fv:Value) (wr:World) (found:List Int) (sr:Js) (B:Nat) (Zr:Nat->Prop):Prop where
 res:res=logScan nb fr bl d.read (bl-1-i) i found sr
 jq:Jq Zr wr j c p room nb K fr bl d sr
 life:sr.life=life
 row:wr.ownsRow B 5 1 fv found.length (found.map (Value.int .u8))
 isb:Pl.isB found
 bw:B<=wr.heap.size
 wb:w.heap.size<=B
 nz:∀k,B<=k->¬Zr k
 len:found.length<=497 * i
 gr:Gr Z Zr w
 bt:But Z w wr
def FlP (Z:Nat->Prop) (w:World) (j c p room nb K fr bl:Nat) (d:Pd) (res:Js) (w':World):Prop:=(∃Z',Jq Z' w' j c p room nb K fr bl d res/\Gr Z Z' w)/\But Z w w'
theorem Fl.stop{room nb fr:Nat}{life:Nat}{res:Js}{wr:World}{found:List Int}{sr:Js}{Zr:Nat->Prop}(h:Fl Z w j c p room nb K fr bl d life res i fv wr found sr B Zr)(hr:res=sr)(hb:Below wr.heap.size wr w'):FlP Z w j c p room nb K fr bl d res w':=by
 subst hr
 exact⟨⟨Zr,h.jq.below hb,h.gr⟩,h.bt.trans (But.of_below hb)⟩
theorem findLog_any{room nb fr:Nat}(h:Jq Z w j c p room nb K fr bl d s)(hn:Jn nb fr bl s)(hl:d.puts.length<=1073741824)(hon:d.off=false) :
  Calls Tryz.prog 125 #[.pointer (some ⟨j,0,none⟩)] w fun e w'=>e=.returned (.int .i64 0)/\FlP Z w j c p room nb K fr bl d (logScan nb fr bl d.read (bl-1) 0 [] s) w':=by
 obtain⟨res,hres⟩:∃res,res=logScan nb fr bl d.read (bl-1) 0 [] s:=⟨_,rfl⟩
 rw[<- hres]
 have hlo:=hn.lo
 have hfit:=hn.fit
 have hnb:=hn.nb
 obtain⟨mv,hJ,hZj⟩:=h.cells
 have j1:=hJ.cell 1
 have j2:=hJ.cell 2
 simp at j1 j2
 have HA:=hid (jlogRoom_any (fr:Int) (bl:Int) (by omega) (by omega) w)
 have HL:=hid (And.intro hl hon)
 have HR:=hid hres
 have HJ:=hid h
 clear hJ h hn hl hon hres hZj
 generalize hlife:s.life=life at *
 have HLF:=hid hlife
 clear hlife
 go_enter Tryz.func125,Tryz.ntmps125
 go_wp2_with fail
 refine Calls.mono HA.out ?_
 rintro e w0 ⟨rfl,b0⟩
 have HF0:Hid (Fl Z w j c p room nb K fr bl d life res 0 (.slice none 0 0) w0 [] s w0.heap.size (fun k=>Z k/\k<w.heap.size)):={
  res:=by rw[HR.out];rfl
  jq:=HJ.out.cut.below b0
  life:=HLF.out
  row:=⟨rfl,.inl ⟨rfl,rfl⟩⟩
  isb:=Pl.isB_nil
  bw:=Nat.le_refl _
  wb:=b0.size
  nz:=fun k hk q=>by have:=q.2;have:=b0.size;omega
  len:=Nat.zero_le _
  gr:=fun k _ q=>q.1
  bt:=But.of_below b0 }
 clear b0 HA HR HJ HLF j1 j2
 have hbl:((bl:Int)-1)=((bl-1:Nat):Int):=by omega
 rw[hbl]
 clear hbl
 generalize hN:bl-1=N at *
 go_wp2_with fail
 go_loopw [3,16] (fun fv iv wr=>∃i found sr B Zr,i<=N/\iv=.int .i64 (i:Int)/\Fl Z w j c p room nb K fr bl d life res i fv wr found sr B Zr) (fun _ iv _=>N-(intOf iv).toNat)
 case atStart=>exact⟨0,[],s,_,_,Nat.zero_le _,rfl,HF0.out⟩
 case round=>
  clear HF0
  obtain⟨i,found,sr,B,Zr,hi,rfl,hF⟩:=hrel
  by_cases hiN:i<N
  ·have hiN':(i:Int)<(N:Int):=by omega
   obtain⟨mv1,hJb,_⟩:=hF.jq.cells
   have j1:=hJb.cell 1
   have j2:=hJb.cell 2
   simp at j1 j2
   obtain⟨av,cv,hfv,_⟩:=owns_slice hF.row
   subst hfv
   have HB:=hid (jlogBlock_any (fr:Int) (bl:Int) (i:Int) (by omega) (by omega) (by omega) (by omega) wr)
   have HF:=hid hF
   clear hJb hF
   go_wp2_with fail
   refine Calls.mono HB.out ?_
   rintro e w1 ⟨rfl,b1⟩
   have HRd:=hid (readRecord_any (HF.out.jq.below b1) HL.out.1 HL.out.2 (fr+1+i) (by omega))
   rw[show (((fr+1+i:Nat)):Int)=(fr:Int)+1+(i:Int) by omega]at HRd
   have B1:=hid b1
   clear b1 HB j1 j2
   go_wp2_with fail
   refine Calls.mono HRd.out ?_
   rintro e w2 ⟨v,lf,rfl,hrec,b2⟩
   have B2:=hid (B1.out.trans (b2.mono B1.out.size))
   obtain⟨mv2,hJb2,_⟩:=(HF.out.jq.below B2.out).cells
   have j3:=hJb2.cell 3
   simp at j3
   obtain⟨k,hk⟩:∃k,bl-1-i=k+1:=⟨bl-1-i-1,by omega⟩
   have hres:=HF.out.res
   rw[hk,logScan]at hres
   have HLf:=HF.out.life
   rw[HLf]at j3 hres
   generalize unZ (d.read (fr+1+i))=o at *
   have HREC:=hid hrec
   have HRES:=hid hres
   have HK:=hid hk
   clear b2 B1 HRd hJb2 hrec hres hk HLf
   by_cases hA:lf=(life:Int)/\lf≠0
   ·obtain⟨hA1,hA2⟩:=hA
    subst hA1
    cases ho:o with
    | none=>exact absurd (by have:=HREC.out;rw[ho]at this;exact this.2) hA2
    | some r=>
     obtain⟨kd,l,body⟩:=r
     have hrc:=HREC.out
     rw[ho]at hrc
     obtain⟨hl0,hv,hib,hbl497,_⟩:=hrc
     have hres:=HRES.out
     rw[ho]at hres
     simp only at hres
     rw[if_neg (by rw[<- hl0];omega)]at hres
     have HRS:=hid hres
     clear hres HREC HRES ho
     rcases hv with ⟨rfl,rfl⟩ | ⟨rfl,g,rfl,hblk⟩ | ⟨rfl,g,rfl,hblk⟩ | ⟨h2,h3,h4,rfl⟩
     ·have hst:res=sr:=by have:=HRS.out;simpa using this
      have FIN:=hid (HF.out.stop hst B2.out)
      clear hst HRS HK B2 HF hib hbl497 hl0
      cases hdZ body with
      | none=>
       simp only[hdV]
       generalize (life:Int)=lv at *
       go_wp2_with (first | simp only[as5_nil] | simp only[as6_nil])
       all_goals first | done | (go_ret;exact⟨rfl,FIN.out⟩)
      | some r=>
       obtain⟨f1,f2,f3⟩:=r
       simp only[hdV]
       generalize (life:Int)=lv at *
       go_wp2_with (first | simp only[as5_143] | simp only[as6_143])
       all_goals first | done | (go_ret;exact⟨rfl,FIN.out⟩)
     ·have hrow2:=owns_below HF.out.row B2.out
      have hlen:=HF.out.len
      have hs2:=B2.out.size
      obtain⟨a3,c3,w3,hrun,hrow3,b3⟩:=grow_bytes 40 hrow2 hblk hbl497 (by omega) (Nat.le_trans HF.out.bw hs2)
      have hrun':=(app145 40 av found.length cv (.slice (some ⟨g,0,none⟩) body.length body.length) w2).trans hrun
      have FN:Hid (Fl Z w j c p room nb K fr bl d life res (i+1) (.slice a3 (found.length+body.length) c3) w3 (found++body) sr B Zr):={
       res:=by
        have h1:=HRS.out
        have h2:=HK.out
        rw[show bl-1-(i+1)=k by omega]
        simpa using h1
       jq:=(HF.out.jq.below B2.out).but b3 (fun x hx hz q=>HF.out.nz x q hz)
       life:=HF.out.life
       row:=by rw[List.length_append];exact hrow3
       isb:=fun z hz=>(List.mem_append.1 hz).elim (HF.out.isb z) (hib z)
       bw:=by have:=HF.out.bw;have:=b3.size;omega
       wb:=HF.out.wb
       nz:=HF.out.nz
       len:=by rw[List.length_append];omega
       gr:=HF.out.gr
       bt:=(HF.out.bt.trans (But.of_below B2.out)).comp b3 (fun x hx q=>by have:=HF.out.wb;omega) }
      clear hrow2 hrow3 b3 hrun hlen hs2 hblk hib HRS HK B2 HF hl0 hbl497
      generalize body.length=bn at *
      generalize found.length=fn at *
      generalize (life:Int)=lv at *
      go_wp2_with (first | simp only[as5_145] | (at_builtin;refine Lib.wpList_append_run _ rfl _ _ _ _ rfl _ _ rfl rfl _ _ hrun' ?_))
      refine⟨⟨i+1,found++body,sr,B,Zr,by omega,by go_num,FN.out⟩,?_⟩
      simp[intOf]
      omega
     ·have hrow2:=owns_below HF.out.row B2.out
      have hlen:=HF.out.len
      have hs2:=B2.out.size
      obtain⟨a3,c3,w3,hrun,hrow3,b3⟩:=grow_bytes 40 hrow2 hblk hbl497 (by omega) (Nat.le_trans HF.out.bw hs2)
      have hrun':=(app146 40 av found.length cv (.slice (some ⟨g,0,none⟩) body.length body.length) w2).trans hrun
      have hJ3:=(HF.out.jq.below B2.out).but b3 (fun x hx hz q=>HF.out.nz x q hz)
      have hbt3:But Z w w3:=(HF.out.bt.trans (But.of_below B2.out)).comp b3 (fun x hx q=>by have:=HF.out.wb;omega)
      have hib3:Pl.isB (found++body):=fun z hz=>(List.mem_append.1 hz).elim (HF.out.isb z) (hib z)
      obtain⟨hrd3,hcap3⟩:=rdn_of_owns (X:=Zr) hrow3 hib3 HF.out.nz
      have HTF:=hid (takeFound_any hJ3 hfit a3 (found.length+body.length) c3 (found++body) hrd3 hcap3 (by omega))
      have hres4:res=if okFound nb fr bl sr.seq (found++body) then logScan nb fr bl d.read k (i+1) [] ⟨sr.life,sr.seq+1,i+1,aheadP sr.ah (putsZ (found++body))⟩ else sr:=by have:=HRS.out;rw[HF.out.life];simpa using this
      have KK:=hid (And.intro hres4 (And.intro hbt3 (And.intro HF.out.gr (And.intro HF.out.life HK.out))))
      have hlf:=HF.out.life
      clear hrow2 hrow3 b3 hrun hlen hs2 hblk hib HRS HK B2 HF hl0 hbl497 hJ3 hbt3 hib3 hrd3 hcap3 hres4
      generalize hok:okFound nb fr bl sr.seq (found++body)=ok at *
      generalize hzz:found++body=zz at *
      clear hzz hok
      generalize body.length=bn at *
      generalize found.length=fn at *
      generalize (life:Int)=lv at *
      go_wp2_with (first | simp only[as5_146] | simp only[as6_146] | (at_builtin;refine Lib.wpList_append_run _ rfl _ _ _ _ rfl _ _ rfl rfl _ _ hrun' ?_) | fail)
      refine Calls.mono HTF.out ?_
      rintro e w4 ⟨rfl,⟨Z4,hJ4,hG4⟩,b4⟩
      have hs3:=KK.out.2.1.size
      have hbt4:But Z w w4:=KK.out.2.1.comp b4 (fun x hx q=>KK.out.2.2.1 x hx q)
      have hgr4:Gr Z Z4 w:=KK.out.2.2.1.trans hG4 hs3
      cases ok with
      | false=>
       have hst:res=sr:=by have:=KK.out.1;simpa using this
       have FIN:Hid (FlP Z w j c p room nb K fr bl d res w4):=by rw[hst];exact⟨⟨Z4,hJ4,hgr4⟩,hbt4⟩
       clear hst KK hJ4 hG4 b4 hbt4 hgr4 HTF hrun'
       go_wp2
       go_ret
       exact⟨rfl,FIN.out⟩
      | true=>
       have hJ4':Jq Z4 w4 j c p room nb K fr bl d ⟨sr.life,sr.seq+1,sr.used,aheadP sr.ah (putsZ zz)⟩:=hJ4
       obtain⟨Zc,m,n,D,a,hW⟩:=hJ4'.cut
       have j5:=hW.jb.cell 5
       have f5:=hW.jb.frozen 5
       simp at j5
       obtain⟨w5,hw5⟩:∃w5,w5=w4.setCell ⟨j,5,none⟩ (.int .i64 ((i:Int)+1)):=⟨_,rfl⟩
       have J5:Jb w5 j c fr bl sr.life ((sr.seq:Int)+1) ((i:Int)+1) (.map (some m)):=by rw[hw5];simpa [Jb] using hW.jb.set 5 (.int .i64 ((i:Int)+1))
       have bb:But (fun k=>k=j) w4 w5:=by rw[hw5];exact (But.refl (fun y=>y=j) w4).setCell (p:=⟨j,5,none⟩) (show (fun y=>y=j) j from rfl) _
       have hzj:=hW.zj
       have hwr:IntKind.i64.wrap ((i:Int)+1)=(i:Int)+1:=by rw[IntKind.wrap_i64];omega
       have FN:Hid (Fl Z w j c p room nb K fr bl d life res (i+1) (.slice none 0 0) w5 [] ⟨sr.life,sr.seq+1,i+1,aheadP sr.ah (putsZ zz)⟩ w5.heap.size (fun k=>Z4 k/\k<w4.heap.size)):={
        res:=by
         have h1:=KK.out.1
         have h2:=KK.out.2.2.2.2
         rw[show bl-1-(i+1)=k by omega]
         simpa using h1
        jq:=⟨Zc,m,n,D,a,hW.rejb (s':=⟨sr.life,sr.seq+1,i+1,aheadP sr.ah (putsZ zz)⟩) bb (by simpa using J5) rfl⟩
        life:=KK.out.2.2.2.1
        row:=⟨rfl,.inl ⟨rfl,rfl⟩⟩
        isb:=Pl.isB_nil
        bw:=Nat.le_refl _
        wb:=Nat.le_trans hbt4.size bb.size
        nz:=fun x hx q=>by have:=q.2;have:=bb.size;omega
        len:=Nat.zero_le _
        gr:=fun x hx q=>hgr4 x hx q.1
        bt:=hbt4.comp bb (fun x hx e=>by rw[e];exact hgr4 j (by rw[<- e];exact hx) hzj.1) }
       clear KK hJ4 hJ4' hG4 b4 hbt4 hgr4 HTF hrun' hW J5 bb hzj
       go_wp2_with fail
       rw[<- hw5]
       refine⟨⟨i+1,[],⟨sr.life,sr.seq+1,i+1,aheadP sr.ah (putsZ zz)⟩,_,_,by omega,by go_num,FN.out⟩,?_⟩
       simp[intOf]
       omega
     ·have hst:res=sr:=by have:=HRS.out;simpa [h3,h4] using this
      have FIN:=hid (HF.out.stop hst B2.out)
      clear hst HRS HK B2 HF hib hbl497 hl0 h2 h3 h4
      generalize (life:Int)=lv at *
      go_wp2_with (first | simp only[as5_nil] | simp only[as6_nil])
      all_goals first | done | (go_ret;exact⟨rfl,FIN.out⟩)
   ·have hst:res=sr:=by
     have hrc:=HREC.out
     have hres:=HRES.out
     cases ho:o with
     | none=>rw[ho]at hres;exact hres
     | some r=>
      obtain⟨kd,l,body⟩:=r
      rw[ho]at hrc hres
      simp only at hres
      rw[if_pos (by
       rw[hrc.1]at hA
       by_cases q:l=(life:Int)
       ·exact .inr (Classical.byContradiction fun r=>hA ⟨q,r⟩)
       ·exact .inl q)]at hres
      exact hres
    have FIN:=hid (HF.out.stop hst B2.out)
    have hA':¬lf=(life:Int)\/lf=0:=by
     by_cases q:lf=(life:Int)
     ·exact .inr (Classical.byContradiction fun r=>hA ⟨q,r⟩)
     ·exact .inl q
    clear hst HREC HRES HK hA B2 HF
    generalize (life:Int)=lv at *
    rcases hA' with hA' | hA'
    ·go_wp2
     go_ret
     exact⟨rfl,FIN.out⟩
    ·subst hA'
     by_cases hlv:lv=0
     ·subst hlv
      go_wp2
      go_ret
      exact⟨rfl,FIN.out⟩
     ·have hlv':¬0=lv:=fun q=>hlv q.symm
      go_wp2
      go_ret
      exact⟨rfl,FIN.out⟩
  ·have hiN':¬(i:Int)<(N:Int):=by omega
   have hst:res=sr:=by
    have:=hF.res
    rw[show bl-1-i=0 by omega]at this
    exact this
   have FIN:=hid (hF.stop hst (Below.refl _ _))
   clear hF hst
   go_wp2
   go_ret
   exact⟨rfl,FIN.out⟩
end Go.Proofs.YtlefjidbpjkhlaaGreat
