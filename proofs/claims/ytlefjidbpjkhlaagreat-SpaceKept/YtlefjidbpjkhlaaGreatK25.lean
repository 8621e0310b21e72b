import Derived.Test.YtlefjidbpjkhlaaGreatK24
set_option maxRecDepth 100000
set_option maxHeartbeats 16000000
namespace Go.Proofs.YtlefjidbpjkhlaaGreat
variable {zs:List Int}
variable {bl i k l q:Nat}
variable {s:Js}
variable {rs:List (Int×List Int)}
variable {α:Type}
variable {P':Nat->List Int->Prop}
open Go.RowKit
theorem unZ_some{k l:Int}{body:List Int}(h:unZ zs=some (k,l,body)):zs.getD 0 0=k/\Pl.num ((zs.drop 3).take 8)=l/\l<=1099511627776:=by
 unfold unZ at h
 split at h
 ·cases h
 ·rename_i q
  split at h
  ·cases h
  ·simp only[Option.some.injEq,Prod.mk.injEq]at h
   exact⟨h.1,h.2.1,by rw[<- h.2.1];omega⟩
theorem len_packH(fr bl q:Nat):(headB fr bl q).length=14:=by simp[headB,packZ,Pl.dig]
theorem unZ_head{fr:Nat}(hl:l<=1099511627776):unZ (headZ fr bl l q)=some (2,(l:Int),headB fr bl q) :=
 unZ_stampZ (by decide) ⟨by omega,by omega⟩ (by rw[len_packH];decide) (isB_bare (by decide) (isB_packZ _))
theorem unZ_blank(fr bl:Nat):unZ (blankZ fr bl)=some (1,0,blankB fr bl) :=
 unZ_stampZ (by decide) ⟨by decide,by decide⟩ (by simp[blankB,packZ,Pl.dig]) (isB_bare (by decide) (isB_packZ _))
theorem hdZ_head{fr:Nat}(h1:fr<=524288)(h2:bl<=524288)(h3:q<=1099511627776):hdZ (headB fr bl q)=some ((fr:Int),(bl:Int),(q:Int)):=by
 have e:headB fr bl q=Pl.dig (fr:Int) 3++(Pl.dig (bl:Int) 3++Pl.dig (q:Int) 8):=by simp[headB,packZ]
 have l1:=Pl.length_dig (fr:Int) 3
 have l2:=Pl.length_dig (bl:Int) 3
 have l3:=Pl.length_dig (q:Int) 8
 have n1:=Pl.num_dig (fr:Int) 3 (by omega) (by omega)
 have n2:=Pl.num_dig (bl:Int) 3 (by omega) (by omega)
 have n3:=Pl.num_dig (q:Int) 8 (by omega) (by rw[Pl.pow8];omega)
 have hL:=len_packH fr bl q
 generalize Pl.dig (fr:Int) 3=d1 at *
 generalize Pl.dig (bl:Int) 3=d2 at *
 generalize Pl.dig (q:Int) 8=d3 at *
 have q1:(headB fr bl q).take 3=d1:=by rw[e,List.take_left' l1]
 have q2:((headB fr bl q).drop 3).take 3=d2:=by rw[e,List.drop_left' l1,List.take_left' l2]
 have q3:((headB fr bl q).drop 6).take 8=d3:=by
  rw[e,<- List.append_assoc,List.drop_left' (by simp[l1,l2])]
  exact List.take_of_length_le (by omega)
 unfold hdZ
 rw[q1,q2,q3,n1,n2,n3,hL,if_pos ⟨rfl,by omega⟩]
theorem headAt_head{fr:Nat}(h1:fr<=524288)(h2:bl<=524288)(h3:q<=1099511627776)(hl:l<=1099511627776):headAt fr bl (headZ fr bl l q)=some (l,q):=by
 unfold headAt
 rw[unZ_head hl]
 simp only
 rw[if_pos trivial,hdZ_head h1 h2 h3]
 simp
def Old (fr bl L:Nat) (v:List Int):Prop:=v=blankZ fr bl\/(∀k l b,unZ v=some (k,l,b)->k≠1/\k≠2/\l<(L:Int))
theorem Old.foreign{fr L:Nat}{v:List Int}(h:Old fr bl L v):(!decide (v=blankZ fr bl) && foreign L v)=false:=by
 rcases h with h | h
 ·simp[h]
 ·cases hu:unZ v with
  | none=>simp[Go.Proofs.YtlefjidbpjkhlaaGreat.foreign,hu]
  | some r=>
   obtain⟨k,l,b⟩:=r
   obtain⟨h1,h2,h3⟩:=h k l b hu
   obtain⟨u1,u2,u3⟩:=unZ_some hu
   unfold Go.Proofs.YtlefjidbpjkhlaaGreat.foreign toCome
   rw[u1,u2]
   have:¬((L:Int)<l):=by omega
   simp[h1,h2,this]
theorem Old.mono{fr L L':Nat}{v:List Int}(h:Old fr bl L v)(hl:L<=L'):Old fr bl L' v:=by
 rcases h with h | h
 ·exact .inl h
 ·exact .inr (fun k l b q=>⟨(h k l b q).1,(h k l b q).2.1,by have:=(h k l b q).2.2;omega⟩)
theorem Old.not{fr L:Nat}{v:List Int}(h:Old fr bl L v)(h0:L≠0){k l:Int}{b:List Int}(hu:unZ v=some (k,l,b)):l≠(L:Int):=by
 rcases h with h | h
 ·rw[h,unZ_blank]at hu
  simp only[Option.some.injEq,Prod.mk.injEq]at hu
  omega
 ·have:=(h k l b hu).2.2
  omega
theorem rec_old{fr L L':Nat}{k:Int}{b:List Int}(hk:k=3\/k=4)(hL:L<=1099511627776)(hl:L<L')(hb:b.length<=497)(hB:Pl.isB b):Old fr bl L' (stampZ k (L:Int) b):=by
 refine .inr (fun k' l' b' h=>?_)
 rw[unZ_stampZ (by omega) ⟨by omega,by omega⟩ hb (isB_bare (by omega) hB)]at h
 simp only[Option.some.injEq,Prod.mk.injEq]at h
 omega
theorem rec_foreign{L:Nat}{k:Int}{b:List Int}(hk:k=3\/k=4)(hL:L<=1099511627776)(hb:b.length<=497)(hB:Pl.isB b):foreign L (stampZ k (L:Int) b)=false:=by
 have hu:=unZ_stampZ (k:=k) (l:=(L:Int)) (body:=b) (by omega) ⟨by omega,by omega⟩ hb (isB_bare (by omega) hB)
 obtain⟨u1,u2,u3⟩:=unZ_some hu
 unfold foreign toCome
 rw[u1,u2]
 have h1:k≠1:=by omega
 have h2:k≠2:=by omega
 simp[h1,h2]
theorem pieces_flat(zs:List Int)(n:Nat):((List.range n).map fun i=>(zs.drop (497 * i)).take 497).flatten=zs.take (497 * n):=by
 induction n with
 | zero=>simp
 | succ n ih=>
  rw[List.range_succ,List.map_append,List.flatten_append,ih]
  simp only[List.map_cons,List.map_nil,List.flatten_cons,List.flatten_nil,List.append_nil]
  rw[show 497 * (n+1)=497 * n+497 by omega,List.take_add]
theorem recs_flat(zs:List Int):((List.range (pieceN zs.length)).map fun i=>(zs.drop (497 * i)).take 497).flatten++zs.drop (497 * pieceN zs.length)=zs:=by
 rw[pieces_flat,List.take_append_drop]
theorem recs_ok(hB:Pl.isB zs):∀r∈recsZ zs,(r.1=3\/r.1=4)/\r.2.length<=497/\Pl.isB r.2:=by
 intro r hr
 unfold recsZ at hr
 rcases List.mem_append.1 hr with hr | hr
 ·obtain⟨i,_,rfl⟩:=List.mem_map.1 hr
  exact⟨.inl rfl,by rw[List.length_take];omega,Pl.isB_take (Pl.isB_drop hB _) _⟩
 ·simp at hr
  subst hr
  refine⟨.inr rfl,?_,Pl.isB_drop hB _⟩
  simp only[List.length_drop]
  unfold pieceN
  omega
open Go.RowKit
theorem putK_shift{a rest:List Int}(ha:a.length=515)(i:Nat):putK (a++rest) (i+1)=putK rest i:=by
 unfold putK
 rw[show 515 * (i+1)=515+515 * i by omega,show 515+515 * i+3=515+(515 * i+3) by omega,<- List.drop_drop,<- List.drop_drop,List.drop_left' ha]
theorem putsZ_bytesZ{ps:List (Nat×List Int)}(h:∀p∈ps,p.1<16777216/\p.2.length=512):putsZ (bytesZ ps)=ps:=by
 induction ps with
 | nil=>rfl
 | cons p ps ih=>
  obtain⟨h1,h2⟩:=h p (by simp)
  have ih':=ih (fun q hq=>h q (by simp[hq]))
  have hl:=length_bytesZ (ps:=ps) (fun q hq=>(h q (by simp[hq])).2)
  have e:bytesZ (p :: ps)=(Pl.dig (p.1:Int) 3++p.2)++bytesZ ps:=by simp[bytesZ,packZ]
  have l3:=Pl.length_dig (p.1:Int) 3
  have n3:=Pl.num_dig (p.1:Int) 3 (by omega) (by omega)
  unfold putsZ
  rw[e]
  have hL:((Pl.dig (p.1:Int) 3++p.2)++bytesZ ps).length / 515=ps.length+1:=by
   rw[List.length_append,List.length_append,l3,h2,hl]
   omega
  rw[hL,List.range_succ_eq_map,List.map_cons,List.map_map]
  have h0:putK ((Pl.dig (p.1:Int) 3++p.2)++bytesZ ps) 0=p:=by
   unfold putK
   simp only[Nat.mul_zero,Nat.zero_add,List.drop_zero]
   rw[List.append_assoc,List.take_left' l3,n3,List.drop_left' l3,List.take_left' h2]
   simp
  rw[h0]
  congr 1
  have hs:(putK ((Pl.dig (p.1:Int) 3++p.2)++bytesZ ps) ∘ Nat.succ)=putK (bytesZ ps):=by
   funext i
   exact putK_shift (by rw[List.length_append,l3,h2]) i
  rw[hs]
  have:(bytesZ ps).length / 515=ps.length:=by rw[hl];omega
  rw[<- this]
  exact ih'
def Says (L:Nat) (r:Int×List Int) (b:List Int):Prop:=unZ b=some (r.1,(L:Int),r.2)
def Other (L:Nat) (b:List Int):Prop:=∀k l c,unZ b=some (k,l,c)->l≠(L:Int)
theorem Says.not{L:Nat}{r:Int×List Int}{b:List Int}(h:Says L r b):¬Other L b:=fun q=>q _ _ _ h rfl
theorem logScan_other{nb fr:Nat}{rd:Nat->List Int}{found:List Int}(h:Other s.life (rd (fr+1+i)))(k:Nat):logScan nb fr bl rd k i found s=s:=by
 cases k with
 | zero=>rfl
 | succ k=>
  unfold logScan
  cases hu:unZ (rd (fr+1+i)) with
  | none=>rfl
  | some r=>
   obtain⟨kd,l,c⟩:=r
   simp only
   rw[if_pos (.inl (h _ _ _ hu))]
theorem logScan_piece{nb fr:Nat}{rd:Nat->List Int}{found b:List Int}(h0:s.life≠0)(h:Says s.life (3,b) (rd (fr+1+i)))(k:Nat):logScan nb fr bl rd (k+1) i found s=logScan nb fr bl rd k (i+1) (found++b) s:=by
 conv=>lhs;unfold logScan
 unfold Says at h
 rw[h]
 simp only
 rw[if_neg (by omega),if_pos trivial]
theorem logScan_last{nb fr:Nat}{rd:Nat->List Int}{found b:List Int}(h0:s.life≠0)(h:Says s.life (4,b) (rd (fr+1+i)))(ho:okFound nb fr bl s.seq (found++b)=true)(k:Nat):logScan nb fr bl rd (k+1) i found s=logScan nb fr bl rd k (i+1) [] ⟨s.life,s.seq+1,i+1,aheadP s.ah (putsZ (found++b))⟩:=by
 conv=>lhs;unfold logScan
 unfold Says at h
 rw[h]
 simp only
 rw[if_neg (by omega),if_neg (by decide),if_pos trivial,if_pos ho]
def Here (L fr:Nat) (rd:Nat->List Int) (rs:List (Int×List Int)) (i:Nat):Prop:=∀(t:Nat) (r:Int×List Int),rs[t]?=some r->Says L r (rd (fr+1+(i+t)))
def Maybe (L fr:Nat) (rd:Nat->List Int) (rs:List (Int×List Int)) (i:Nat):Prop:=∀(t:Nat) (r:Int×List Int),rs[t]?=some r->Says L r (rd (fr+1+(i+t)))\/Other L (rd (fr+1+(i+t)))
theorem Here.cons{L fr:Nat}{rd:Nat->List Int}{r:Int×List Int} :Here L fr rd (r :: rs) i ↔ Says L r (rd (fr+1+i))/\Here L fr rd rs (i+1):=by
 constructor
 ·intro h
  exact⟨h 0 r rfl,fun t q hq=>by have:=h (t+1) q (by simpa using hq);rwa [show i+(t+1)=i+1+t by omega]at this⟩
 ·rintro ⟨h1,h2⟩ t q hq
  cases t with
  | zero=>
   simp at hq
   subst hq
   exact h1
  | succ t=>rw[show i+(t+1)=i+1+t by omega];exact h2 t q (by simpa using hq)
theorem Maybe.cons{L fr:Nat}{rd:Nat->List Int}{r:Int×List Int}(h:Maybe L fr rd (r :: rs) i):(Says L r (rd (fr+1+i))\/Other L (rd (fr+1+i)))/\Maybe L fr rd rs (i+1) :=
 ⟨h 0 r rfl,fun t q hq=>by have:=h (t+1) q (by simpa using hq);rwa [show i+(t+1)=i+1+t by omega]at this⟩
theorem Here.append{L fr:Nat}{rd:Nat->List Int}{rs':List (Int×List Int)} :Here L fr rd (rs++rs') i ↔ Here L fr rd rs i/\Here L fr rd rs' (i+rs.length):=by
 induction rs generalizing i with
 | nil=>simp[Here]
 | cons r rs ih=>
  rw[List.cons_append,Here.cons,Here.cons,ih,List.length_cons,show i+(rs.length+1)=i+1+rs.length by omega,and_assoc]
theorem Maybe.append{L fr:Nat}{rd:Nat->List Int}{rs':List (Int×List Int)}(h:Maybe L fr rd (rs++rs') i):Maybe L fr rd rs i/\Maybe L fr rd rs' (i+rs.length):=by
 induction rs generalizing i with
 | nil=>exact⟨fun t r hr=>by simp at hr,by simpa using h⟩
 | cons r rs ih=>
  obtain⟨h1,h2⟩:=Maybe.cons h
  obtain⟨h3,h4⟩:=ih h2
  refine⟨fun t q hq=>?_,by rw[List.length_cons,show i+(rs.length+1)=i+1+rs.length by omega];exact h4⟩
  cases t with
  | zero=>
   simp at hq
   subst hq
   exact h1
  | succ t=>rw[show i+(t+1)=i+1+t by omega];exact h3 t q (by simpa using hq)
theorem logScan_tx{nb fr:Nat}{rd:Nat->List Int}(q:List Int)(s:Js)(h0:s.life≠0):∀(ps:List (List Int)) (i:Nat) (found:List Int) (k:Nat),okFound nb fr bl s.seq (found++ps.flatten++q)=true->Maybe s.life fr rd (ps.map (fun p=>((3:Int),p))++[(4,q)]) i->ps.length+1<=k ->
  (Here s.life fr rd (ps.map (fun p=>((3:Int),p))++[(4,q)]) i/\logScan nb fr bl rd k i found s=logScan nb fr bl rd (k-(ps.length+1)) (i+(ps.length+1)) [] ⟨s.life,s.seq+1,i+(ps.length+1),aheadP s.ah (putsZ (found++ps.flatten++q))⟩) \/
  (¬Here s.life fr rd (ps.map (fun p=>((3:Int),p))++[(4,q)]) i/\logScan nb fr bl rd k i found s=s)
 | _,_,_,0,_,_,hk=>absurd hk (by omega)
 | [],i,found,k+1,ho,hm,_=>by
  obtain⟨h1,_⟩:=Maybe.cons hm
  simp only[List.flatten_nil,List.append_nil]at ho ⊢
  rcases h1 with h1 | h1
  ·exact .inl ⟨Here.cons.2 ⟨h1,fun t r hr=>by simp at hr⟩,logScan_last h0 h1 ho k⟩
  ·exact .inr ⟨fun h=>(Here.cons.1 h).1.not h1,logScan_other h1 _⟩
 | p :: ps,i,found,k+1,ho,hm,hk=>by
  obtain⟨h1,h2⟩:=Maybe.cons hm
  rcases h1 with h1 | h1
  ·have e:found++(p :: ps).flatten++q=(found++p)++ps.flatten++q:=by simp
   rw[e]at ho ⊢
   rcases logScan_tx q s h0 ps (i+1) (found++p) k ho h2 (by simp at hk;omega) with ⟨g1,g2⟩ | ⟨g1,g2⟩
   ·refine .inl ⟨Here.cons.2 ⟨h1,g1⟩,?_⟩
    rw[logScan_piece h0 h1,g2,List.length_cons,show k+1-(ps.length+1+1)=k-(ps.length+1) by omega,show i+(ps.length+1+1)=i+1+(ps.length+1) by omega]
   ·exact .inr ⟨fun h=>g1 (Here.cons.1 h).2,by rw[logScan_piece h0 h1,g2]⟩
  ·exact .inr ⟨fun h=>(Here.cons.1 h).1.not h1,logScan_other h1 _⟩
open Go.RowKit
abbrev Tn:=List (Nat×List Int)
def GoodT (nb fr bl:Nat) (t:Tn):Prop:=∀p∈t,p.1<nb/\homeC nb fr bl (p.1:Int)=0/\p.2.length=512/\Pl.isB p.2
def txRecs (t:Tn):List (Int×List Int):=recsZ (bytesZ t)
def wantsL (ts:List Tn):List (Int×List Int):=ts.flatMap txRecs
theorem wantsL_cons(t:Tn)(ts:List Tn):wantsL (t :: ts)=txRecs t++wantsL ts:=by simp[wantsL]
theorem wantsL_snoc(ts:List Tn)(t:Tn):wantsL (ts++[t])=wantsL ts++txRecs t:=by simp[wantsL]
def tPieces (t:Tn):List (List Int):=(List.range (pieceN (bytesZ t).length)).map fun i=>((bytesZ t).drop (497 * i)).take 497
def tLast (t:Tn):List Int:=(bytesZ t).drop (497 * pieceN (bytesZ t).length)
theorem txRecs_eq(t:Tn):txRecs t=(tPieces t).map (fun p=>((3:Int),p))++[(4,tLast t)]:=by
 unfold txRecs recsZ tPieces tLast
 rw[List.map_map]
 rfl
theorem txRecs_len(t:Tn):(txRecs t).length=(tPieces t).length+1:=by rw[txRecs_eq];simp
theorem tx_flat(t:Tn):([]:List Int)++(tPieces t).flatten++tLast t=bytesZ t:=by
 rw[List.nil_append]
 exact recs_flat (bytesZ t)
theorem GoodT.small{nb fr:Nat}{t:Tn}(h:GoodT nb fr bl t)(hn:nb<=524288):∀p∈t,p.1<16777216/\p.2.length=512:=fun p hp=>⟨by have:=(h p hp).1;omega,(h p hp).2.2.1⟩
theorem GoodT.puts{nb fr:Nat}{t:Tn}(h:GoodT nb fr bl t)(hn:nb<=524288):putsZ (bytesZ t)=t:=putsZ_bytesZ (h.small hn)
theorem GoodT.ok{nb fr:Nat}{t:Tn}(h:GoodT nb fr bl t)(hn:nb<=524288){seq:Nat}(hs:seq<1099511627776):okFound nb fr bl seq (bytesZ t)=true:=by
 unfold okFound
 rw[h.puts hn,length_bytesZ (fun p hp=>(h p hp).2.2.1)]
 have h1:(515 * t.length) % 515=0:=by omega
 have h2:((seq:Int)<1099511627776):=by omega
 rw[h1]
 simp only[decide_true,Bool.true_and,h2]
 rw[List.all_eq_true]
 intro p hp
 simp[(h p hp).2.1]
theorem GoodT.recs{nb fr:Nat}{t:Tn}(h:GoodT nb fr bl t):∀r∈txRecs t,(r.1=3\/r.1=4)/\r.2.length<=497/\Pl.isB r.2:=recs_ok (isB_bytesZ (fun p hp=>(h p hp).2.2.2))
theorem aheadP_append(ah:Nat->Option (List Int))(a b:Tn):aheadP ah (a++b)=aheadP (aheadP ah a) b:=by
 unfold aheadP
 rw[List.foldl_append]
theorem scan_begins{nb fr:Nat}{rd:Nat->List Int}(hnb:nb<=524288):∀(ts:List Tn) (i k:Nat) (s:Js),(∀t∈ts,GoodT nb fr bl t)->s.life≠0->s.used=i->s.seq+ts.length<=1099511627776->Maybe s.life fr rd (wantsL ts) i->(wantsL ts).length<=k ->
  (∀t,(wantsL ts).length<=t->t<k->Other s.life (rd (fr+1+(i+t)))) ->
  ∃n,n<=ts.length/\logScan nb fr bl rd k i [] s=⟨s.life,s.seq+n,i+(wantsL (ts.take n)).length,aheadP s.ah (ts.take n).flatten⟩/\Here s.life fr rd (wantsL (ts.take n)) i/\∀m,m<=ts.length->Here s.life fr rd (wantsL (ts.take m)) i->m<=n
 | [],i,k,s,_,h0,hu,_,_,_,ht=>by
  refine⟨0,Nat.le_refl _,?_,fun t r hr=>by simp[wantsL]at hr,fun m hm _=>hm⟩
  have e:logScan nb fr bl rd k i [] s=s:=by
   cases k with
   | zero=>rfl
   | succ k=>exact logScan_other (by have:=ht 0 (Nat.zero_le _) (by omega);rwa [Nat.add_zero]at this) _
  rw[e]
  obtain⟨a,b,c,d⟩:=s
  simp only at hu
  subst hu
  rfl
 | t :: ts,i,k,s,hg,h0,hu,hq,hm,hk,ht=>by
  rw[wantsL_cons]at hm hk ht
  rw[List.length_append]at hk ht
  obtain⟨m1,m2⟩:=Maybe.append hm
  have hgt:=hg t (by simp)
  have hok:=hgt.ok hnb (seq:=s.seq) (by simp at hq;omega)
  rw[<- tx_flat t]at hok
  have hl:=txRecs_len t
  rw[txRecs_eq]at m1
  rcases logScan_tx (nb:=nb) (bl:=bl) (tLast t) s h0 (tPieces t) i [] k hok m1 (by omega) with ⟨g1,g2⟩ | ⟨g1,g2⟩
  ·rw[tx_flat,hgt.puts hnb,<- hl]at g2
   obtain⟨n,n1,n2,n3,n4⟩:=scan_begins hnb ts (i+(txRecs t).length) (k-(txRecs t).length) ⟨s.life,s.seq+1,i+(txRecs t).length,aheadP s.ah t⟩ (fun x hx=>hg x (by simp[hx])) h0 rfl (by simp at hq ⊢;omega) m2 (by omega) (fun u hu1 hu2=>by
    have:=ht ((txRecs t).length+u) (by omega) (by omega)
    rwa [<- Nat.add_assoc i]at this)
   have hw:∀n,wantsL ((t :: ts).take (n+1))=txRecs t++wantsL (ts.take n):=fun n=>by rw[List.take_succ_cons,wantsL_cons]
   refine⟨n+1,by simp;omega,?_,?_,fun m hm2 hh=>?_⟩
   ·rw[g2,n2,hw,List.length_append,List.take_succ_cons,List.flatten_cons,aheadP_append]
    simp only[Js.mk.injEq,true_and,and_true]
    omega
   ·rw[hw]
    exact Here.append.2 ⟨by rw[txRecs_eq];exact g1,n3⟩
   ·cases m with
    | zero=>exact Nat.zero_le _
    | succ m=>
     rw[hw]at hh
     have:=n4 m (by simpa using hm2) (Here.append.1 hh).2
     omega
  ·refine⟨0,Nat.zero_le _,?_,fun u r hr=>by simp[wantsL]at hr,fun m hm2 hh=>?_⟩
   ·rw[g2]
    obtain⟨a,b,c,d⟩:=s
    simp only at hu
    subst hu
    rfl
   ·cases m with
    | zero=>exact Nat.le_refl _
    | succ m=>
     rw[List.take_succ_cons,wantsL_cons]at hh
     have:=(Here.append.1 hh).1
     rw[txRecs_eq]at this
     exact absurd this g1
open Go.RowKit
def HomeB (nb fr bl x:Nat):Prop:=x<nb/\¬(fr<=x/\x<fr+bl)
def after (base:Nat->List Int) (ts:List Tn) (x:Nat):List Int:=(aheadP (fun _=>none) ts.flatten x).getD (base x)
def OldAt (fr bl l:Nat) (v:List Int):Prop:=Old fr bl (if l=0 then 1099511627777 else l) v
structure Hd (P:Nat->List Int->Prop) (nb fr bl l q:Nat) (base:Nat->List Int) (ts ex:List Tn) (k:Nat):Prop where
 life:l<=1099511627776
 seq:q+(ts++ex).length<=1099511627776
 good:∀t∈ts++ex,GoodT nb fr bl t
 zero:l=0->ts++ex=[]
 fit:(wantsL (ts++ex)).length+1<=bl
 kle:k<=ts.length
 log:∀i,i<bl-1->∀v,P (fr+1+i) v->(∃r,(wantsL (ts++ex))[i]?=some r/\v=stampZ r.1 (l:Int) r.2)\/OldAt fr bl l v
 dur:∀i,i<(wantsL (ts.take k)).length->∀v,P (fr+1+i) v->∃r,(wantsL (ts++ex))[i]?=some r/\v=stampZ r.1 (l:Int) r.2
 home:∀x,HomeB nb fr bl x->∀v,P x v->v=base x\/(k=ts.length/\v=after base ts x)
 stop:ex=[]\/∃t0 ex' i,ex=t0 :: ex'/\i<(wantsL (ts++[t0])).length/\∀v,P (fr+1+i) v->OldAt fr bl l v
theorem wantsL_ok{nb fr:Nat}{ts:List Tn}(h:∀t∈ts,GoodT nb fr bl t):∀r∈wantsL ts,(r.1=3\/r.1=4)/\r.2.length<=497/\Pl.isB r.2:=by
 intro r hr
 obtain⟨t,ht,hr⟩:=List.mem_flatMap.1 hr
 exact (h t ht).recs r hr
theorem says_stamp{r:Int×List Int}(hl:l<=1099511627776)(h:(r.1=3\/r.1=4)/\r.2.length<=497/\Pl.isB r.2):Says l r (stampZ r.1 (l:Int) r.2) :=
 unZ_stampZ (by omega) ⟨by omega,by omega⟩ h.2.1 (isB_bare (by omega) h.2.2)
theorem logScan_zero{nb fr:Nat}{rd:Nat->List Int}{found:List Int}(h:s.life=0)(k:Nat):logScan nb fr bl rd k i found s=s:=by
 cases k with
 | zero=>rfl
 | succ k=>
  unfold logScan
  cases hu:unZ (rd (fr+1+i)) with
  | none=>rfl
  | some r=>
   obtain⟨kd,l,c⟩:=r
   simp only
   rw[if_pos (by omega)]
theorem take_get{a b:List α}(hab:∃c,b=a++c)(hi:i<a.length):b[i]?=a[i]?:=by
 obtain⟨c,rfl⟩:=hab
 exact List.getElem?_append_left hi
theorem wantsL_take(ts:List Tn)(k:Nat):∃c,wantsL ts=wantsL (ts.take k)++c:=⟨wantsL (ts.drop k),by unfold wantsL;rw[<- List.flatMap_append,List.take_append_drop]⟩
theorem oldAt_other{fr:Nat}{v:List Int}(hl0:l≠0)(e:OldAt fr bl l v):Other l v:=fun kd l' c hu=>by
 unfold OldAt at e
 rw[if_neg hl0]at e
 exact e.not hl0 hu
theorem Hd.found{P:Nat->List Int->Prop}{nb fr:Nat}{base:Nat->List Int}{ts ex:List Tn}(h:Hd P nb fr bl l q base ts ex k)(hnb:nb<=524288)(hbl:fr+bl<=nb){rd:Nat->List Int}(hrd:∀x,x<nb->P x (rd x)) :
  ∃n,k<=n/\n<=ts.length/\logScan nb fr bl rd (bl-1) 0 [] ⟨l,q,0,fun _=>none⟩=⟨l,q+n,(wantsL (ts.take n)).length,aheadP (fun _=>none) (ts.take n).flatten⟩ /\
   (∀i,(wantsL (ts.take n)).length<=i->i<bl-1->otherAt fr bl l rd i=false)/\(∀x,HomeB nb fr bl x->(aheadP (fun _=>none) (ts.take n).flatten x).getD (rd x)=after base (ts.take n) x) /\
   Hd (fun x v=>v=rd x) nb fr bl l q base (ts.take n) ((ts++ex).drop n) n:=by
 have hP:∀i,i<bl-1->P (fr+1+i) (rd (fr+1+i)):=fun i hi=>hrd _ (by omega)
 have hfit:=h.fit
 have hno:∀i,i<bl-1->otherAt fr bl l rd i=false:=fun i hi=>by
  unfold otherAt
  rcases h.log i hi _ (hP i hi) with ⟨r,hr,e⟩ | e
  ·have ho:=wantsL_ok h.good r (List.mem_of_getElem? hr)
   rw[e,rec_foreign ho.1 h.life ho.2.1 ho.2.2,Bool.and_false]
  ·unfold OldAt at e
   by_cases hl0:l=0
   ·subst hl0
    rw[if_pos rfl]at e
    have:=e.foreign
    have h2:foreign 0 (rd (fr+1+i))=true->foreign 1099511627777 (rd (fr+1+i))=true:=by
     intro q
     unfold foreign at q ⊢
     simp[toCome]at q
     simp[q]
    cases hf:foreign 0 (rd (fr+1+i)) with
    | false=>rw[Bool.and_false]
    | true=>
     rw[h2 hf]at this
     exact this
   ·rw[if_neg hl0]at e
    exact e.foreign
 have hhome:∀n,k<=n->n<=ts.length->∀x,HomeB nb fr bl x->(aheadP (fun _=>none) (ts.take n).flatten x).getD (rd x)=after base (ts.take n) x:=fun n h1 h2 x hx=>by
  rcases h.home x hx _ (hrd x hx.1) with e | ⟨e1,e2⟩
  ·rw[e];rfl
  ·have:ts.take n=ts:=List.take_of_length_le (by omega)
   rw[this,e2]
   unfold after
   cases aheadP (fun _=>none) ts.flatten x with
   | none=>rfl
   | some v=>rfl
 have htk:∀n,n<=ts.length->(ts++ex).take n=ts.take n:=fun n hn=>List.take_append_of_le_length hn
 have hall:∀n,n<=ts.length->ts.take n++(ts++ex).drop n=ts++ex:=fun n hn=>by rw[<- htk n hn,List.take_append_drop]
 have hag:∀n,k<=n->n<=ts.length->Here l fr rd (wantsL (ts.take n)) 0->(∀t0 ex',(ts++ex).drop n=t0 :: ex'->¬Here l fr rd (wantsL (ts.take n++[t0])) 0)->Hd (fun x v=>v=rd x) nb fr bl l q base (ts.take n) ((ts++ex).drop n) n:=fun n h1 h2 hh hm=>by
  have ha:=hall n h2
  have hlog:∀i,i<bl-1->∀v,v=rd (fr+1+i)->(∃r,(wantsL (ts++ex))[i]?=some r/\v=stampZ r.1 (l:Int) r.2)\/OldAt fr bl l v:=fun i hi v e=>by rw[e];exact h.log i hi _ (hP i hi)
  obtain⟨c,hc⟩:=wantsL_take (ts++ex) n
  rw[htk n h2]at hc
  refine⟨h.life,by rw[ha];exact h.seq,by rw[ha];exact h.good,by rw[ha];exact h.zero,by rw[ha];exact h.fit,by rw[List.length_take];omega,by rw[ha];exact hlog,fun i hi v e=>?_,fun x hx v e=>?_,?_⟩
  ·rw[List.take_take,Nat.min_self]at hi
   rw[ha]
   have hi2:i<(wantsL (ts++ex)).length:=by rw[hc,List.length_append];omega
   rcases hlog i (by omega) v e with q | q
   ·exact q
   ·exfalso
    have hs:=hh i _ (List.getElem?_eq_getElem hi)
    rw[Nat.zero_add,<- e]at hs
    by_cases hl0:l=0
    ·have:=h.zero hl0
     rw[this]at hi2
     exact absurd hi2 (by simp[wantsL])
    ·exact hs.not (oldAt_other hl0 q)
  ·rcases h.home x hx _ (hrd x hx.1) with e2 | ⟨e1,e2⟩
   ·exact .inl (e.trans e2)
   ·refine .inr ⟨by rw[List.length_take];omega,?_⟩
    rw[List.take_of_length_le (by omega)]
    exact e.trans e2
  ·cases hd:(ts++ex).drop n with
   | nil=>exact .inl rfl
   | cons t0 ex'=>
    refine .inr ⟨t0,ex',?_⟩
    have hn:=hm t0 ex' hd
    have:∃i r,(wantsL (ts.take n++[t0]))[i]?=some r/\¬Says l r (rd (fr+1+(0+i))):=Classical.byContradiction fun q=>hn (fun i r hr=>Classical.byContradiction fun q2=>q ⟨i,r,hr,q2⟩)
    obtain⟨i,r,hr,hs⟩:=this
    have hi:=(List.getElem?_eq_some_iff.1 hr).1
    refine⟨i,rfl,hi,fun v e=>?_⟩
    have hw:∃c,wantsL (ts++ex)=wantsL (ts.take n++[t0])++c:=⟨wantsL ex',by
     rw[<- ha,hd]
     unfold wantsL
     rw[<- List.flatMap_append,List.append_assoc]
     rfl⟩
    have hi2:i<(wantsL (ts++ex)).length:=by
     obtain⟨c,hc⟩:=hw
     rw[hc,List.length_append]
     omega
    rcases hlog i (by omega) v e with ⟨r',hr',e'⟩ | q
    ·exfalso
     rw[take_get hw hi,hr]at hr'
     cases hr'
     refine hs ?_
     rw[Nat.zero_add,<- e,e']
     exact says_stamp h.life (wantsL_ok h.good r (List.mem_of_getElem? (by rw[take_get hw hi];exact hr)))
    ·exact q
 by_cases hl0:l=0
 ·have ht:=h.zero hl0
  have ht1:ts=[]:=(List.append_eq_nil_iff.1 ht).1
  have ht2:ex=[]:=(List.append_eq_nil_iff.1 ht).2
  subst ht1
  subst ht2
  have hk:=h.kle
  refine⟨0,hk,Nat.zero_le _,?_,fun i _ hi=>hno i hi,hhome 0 hk (Nat.zero_le _),hag 0 hk (Nat.zero_le _) (fun t r hr=>by simp[wantsL]at hr) (fun t0 ex' e=>by simp at e)⟩
  rw[logScan_zero hl0]
  rfl
 ·obtain⟨n,n1,n2,n3,n4⟩:=scan_begins (nb:=nb) (fr:=fr) (bl:=bl) (rd:=rd) hnb (ts++ex) 0 (bl-1) ⟨l,q,0,fun _=>none⟩ h.good hl0 rfl h.seq (fun t r hr=>by
   have ht:=(List.getElem?_eq_some_iff.1 hr).1
   rw[Nat.zero_add]
   rcases h.log t (by omega) _ (hP t (by omega)) with ⟨r',hr',e⟩ | e
   ·rw[hr]at hr'
    cases hr'
    rw[e]
    exact .inl (says_stamp h.life (wantsL_ok h.good r (List.mem_of_getElem? hr)))
   ·exact .inr (oldAt_other hl0 e)) (by omega) (fun t h1 h2=>by
   rw[Nat.zero_add]
   rcases h.log t h2 _ (hP t h2) with ⟨r',hr',_⟩ | e
   ·have:=(List.getElem?_eq_some_iff.1 hr').1
    omega
   ·exact oldAt_other hl0 e)
  have hkt:=h.kle
  have hkn:k<=n:=n4 k (by rw[List.length_append];omega) (fun t r hr=>by
   rw[htk k hkt]at hr
   have ht:=(List.getElem?_eq_some_iff.1 hr).1
   obtain⟨c,hc⟩:=wantsL_take (ts++ex) k
   rw[htk k hkt]at hc
   have hle:(wantsL (ts.take k)).length<=(wantsL (ts++ex)).length:=by rw[hc,List.length_append];omega
   obtain⟨r',hr',e⟩:=h.dur t ht _ (hP t (by omega))
   rw[take_get ⟨c,hc⟩ ht,hr]at hr'
   cases hr'
   rw[Nat.zero_add,e]
   exact says_stamp h.life (wantsL_ok h.good r (by rw[hc];exact List.mem_append_left _ (List.mem_of_getElem? hr))))
  have hnt:n<=ts.length:=by
   rcases h.stop with e | ⟨t0,ex',i,e,hi,ho⟩
   ·subst e
    simpa using n1
   ·refine Nat.le_of_not_lt fun hlt=>?_
    have hh:Here l fr rd (wantsL (ts++[t0])) 0:=by
     have e2:(ts++ex).take n=ts++[t0]++((ts++ex).drop (ts.length+1)).take (n-(ts.length+1)):=by
      rw[e]
      have:ts++t0 :: ex'=(ts++[t0])++ex':=by simp
      rw[this,List.take_append,List.take_of_length_le (by simp;omega),List.drop_left' (by simp)]
      simp
     rw[e2]at n3
     unfold wantsL at n3 ⊢
     rw[List.flatMap_append]at n3
     exact (Here.append.1 n3).1
    have hs:=hh i _ (List.getElem?_eq_getElem hi)
    rw[Nat.zero_add]at hs
    have hi2:i<bl-1:=by
     have:(wantsL (ts++ex)).length=(wantsL (ts++[t0])).length+(wantsL ex').length:=by
      rw[e]
      have:ts++t0 :: ex'=(ts++[t0])++ex':=by simp
      rw[this]
      unfold wantsL
      rw[List.flatMap_append,List.length_append]
     omega
    exact hs.not (oldAt_other hl0 (ho _ (hP i hi2)))
  rw[htk n hnt]at n2 n3
  refine⟨n,hkn,hnt,?_,fun i _ hi=>hno i hi,hhome n hkn hnt,hag n hkn hnt n3 (fun t0 ex' e hh=>?_)⟩
  ·rw[n2,Nat.zero_add]
  ·have hle:n+1<=(ts++ex).length:=by
    have:=congrArg List.length e
    rw[List.length_drop,List.length_cons]at this
    omega
   have e3:(ts++ex).take (n+1)=ts.take n++[t0]:=by
    rw[List.take_add,htk n hnt,e]
    rfl
   have:=n4 (n+1) hle (by rw[e3];exact hh)
   omega
open Go.RowKit
theorem Hd.sub{P:Nat->List Int->Prop}{nb fr:Nat}{base:Nat->List Int}{ts ex:List Tn}(h:Hd P nb fr bl l q base ts ex k)(hs:∀x v,x≠fr->P' x v->P x v):Hd P' nb fr bl l q base ts ex k:=by
 refine⟨h.life,h.seq,h.good,h.zero,h.fit,h.kle,fun i hi v hv=>h.log i hi v (hs _ v (by omega) hv),fun i hi v hv=>h.dur i hi v (hs _ v (by omega) hv),fun x hx v hv=>?_,?_⟩
 ·by_cases e:x=fr
  ·have:=h.fit
   exact absurd ⟨by omega,by omega⟩ hx.2
  ·exact h.home x hx v (hs x v e hv)
 ·rcases h.stop with e | ⟨t0,ex',i,e1,e2,e3⟩
  ·exact .inl e
  ·exact .inr ⟨t0,ex',i,e1,e2,fun v hv=>e3 v (hs _ v (by omega) hv)⟩
theorem Hd.lasts{P:Nat->List Int->Prop}{nb fr:Nat}{base:Nat->List Int}{ts ex:List Tn}(h:Hd P nb fr bl l q base ts ex k)(hd:∀i r,(wantsL ts)[i]?=some r->∀v,P (fr+1+i) v->v=stampZ r.1 (l:Int) r.2):Hd P nb fr bl l q base ts ex ts.length:=by
 refine⟨h.life,h.seq,h.good,h.zero,h.fit,Nat.le_refl _,h.log,fun i hi v hv=>?_,fun x hx v hv=>?_,h.stop⟩
 ·rw[List.take_length]at hi
  have e:(wantsL (ts++ex))[i]?=(wantsL ts)[i]?:=take_get ⟨wantsL ex,by unfold wantsL;rw[List.flatMap_append]⟩ hi
  refine⟨(wantsL ts)[i],by rw[e];exact List.getElem?_eq_getElem hi,hd i _ (List.getElem?_eq_getElem hi) v hv⟩
 ·rcases h.home x hx v hv with e | e
  ·exact .inl e
  ·exact .inr ⟨rfl,e.2⟩
theorem Hd.homed{P:Nat->List Int->Prop}{nb fr:Nat}{base:Nat->List Int}{ts ex:List Tn}(h:Hd P nb fr bl l q base ts ex ts.length)(hs:∀x v,P' x v->P x v\/(HomeB nb fr bl x/\v=after base ts x)):Hd P' nb fr bl l q base ts ex ts.length:=by
 have hlg:∀i,i<bl-1->∀v,P' (fr+1+i) v->P (fr+1+i) v:=fun i hi v hv=>by
  rcases hs _ v hv with e | e
  ·exact e
  ·exact absurd ⟨by omega,by omega⟩ e.1.2
 have hfit:=h.fit
 refine⟨h.life,h.seq,h.good,h.zero,h.fit,h.kle,fun i hi v hv=>h.log i hi v (hlg i hi v hv),fun i hi v hv=>?_,fun x hx v hv=>?_,?_⟩
 ·have:(wantsL (ts.take ts.length)).length<=(wantsL (ts++ex)).length:=by
   rw[List.take_length]
   unfold wantsL
   rw[List.flatMap_append,List.length_append]
   omega
  exact h.dur i hi v (hlg i (by omega) v hv)
 ·rcases hs x v hv with e | e
  ·exact h.home x hx v e
  ·exact .inr ⟨rfl,e.2⟩
 ·rcases h.stop with e | ⟨t0,ex',i,e1,e2,e3⟩
  ·exact .inl e
  ·refine .inr ⟨t0,ex',i,e1,e2,fun v hv=>e3 v (hlg i ?_ v hv)⟩
   have:(wantsL (ts++ex)).length=(wantsL (ts++[t0])).length+(wantsL ex').length:=by
    rw[e1]
    have:ts++t0 :: ex'=(ts++[t0])++ex':=by simp
    rw[this]
    unfold wantsL
    rw[List.flatMap_append,List.length_append]
   omega
theorem OldAt.next{fr l':Nat}{v:List Int}(h:OldAt fr bl l v)(h1:l≠0)(h2:l<=l'):OldAt fr bl l' v:=by
 unfold OldAt at h ⊢
 rw[if_neg h1]at h
 rw[if_neg (by omega)]
 exact h.mono h2
theorem OldAt.none{fr:Nat}{v:List Int}(h:OldAt fr bl l v)(h1:l<=1099511627776):OldAt fr bl 0 v:=by
 unfold OldAt at h ⊢
 rw[if_pos rfl]
 split at h
 ·exact h
 ·exact h.mono (by omega)
theorem oldAt_blank(fr bl l:Nat):OldAt fr bl l (blankZ fr bl):=.inl rfl
theorem Hd.empty{P:Nat->List Int->Prop}{nb fr:Nat}{base:Nat->List Int}(hl:l<=1099511627776)(hq:q<=1099511627776)(hb:1<=bl)(ho:∀i,i<bl-1->∀v,P (fr+1+i) v->OldAt fr bl l v)(hh:∀x,HomeB nb fr bl x->∀v,P x v->v=base x):Hd P nb fr bl l q base [] [] 0 :=
 ⟨hl,by simpa using hq,fun t ht=>by simp at ht,fun _=>rfl,by simpa [wantsL] using hb,Nat.le_refl _,fun i hi v hv=>.inr (ho i hi v hv),fun i hi v hv=>by simp[wantsL]at hi,fun x hx v hv=>.inl (hh x hx v hv),.inl rfl⟩
theorem Hd.next{P:Nat->List Int->Prop}{nb fr:Nat}{base:Nat->List Int}{ts ex:List Tn}(h:Hd P nb fr bl l q base ts ex k)(hl0:l≠0)(hl:l<1099511627776)(hh:∀x,HomeB nb fr bl x->∀v,P x v->v=after base ts x):Hd P nb fr bl (l+1) (q+ts.length) (after base ts) [] [] 0:=by
 have hq:=h.seq
 have hf:=h.fit
 rw[List.length_append]at hq
 refine Hd.empty (by omega) (by omega) (by omega) (fun i hi v hv=>?_) hh
 rcases h.log i hi v hv with ⟨r,hr,e⟩ | e
 ·have ho:=wantsL_ok h.good r (List.mem_of_getElem? hr)
  rw[e]
  unfold OldAt
  rw[if_neg (by omega)]
  exact rec_old ho.1 h.life (by omega) ho.2.1 ho.2.2
 ·exact e.next hl0 (by omega)
theorem Hd.none{P:Nat->List Int->Prop}{nb fr:Nat}{base:Nat->List Int}{ts ex:List Tn}(h:Hd P nb fr bl l q base ts ex k)(hh:∀x,HomeB nb fr bl x->∀v,P x v->v=after base ts x):Hd P nb fr bl 0 (q+ts.length) (after base ts) [] [] 0:=by
 have hq:=h.seq
 have hf:=h.fit
 have hlf:=h.life
 rw[List.length_append]at hq
 refine Hd.empty (by omega) (by omega) (by omega) (fun i hi v hv=>?_) hh
 rcases h.log i hi v hv with ⟨r,hr,e⟩ | e
 ·have ho:=wantsL_ok h.good r (List.mem_of_getElem? hr)
  rw[e]
  unfold OldAt
  rw[if_pos rfl]
  exact rec_old ho.1 h.life (by omega) ho.2.1 ho.2.2
 ·exact e.none hlf
theorem Hd.more{P:Nat->List Int->Prop}{nb fr:Nat}{base:Nat->List Int}{ts:List Tn}(h:Hd P nb fr bl l q base ts [] k)(hl0:l≠0)(hh:∀x,HomeB nb fr bl x->∀v,P x v->v=base x){t:Tn}(ht:GoodT nb fr bl t)(hq:q+ts.length+1<=1099511627776)(hf:(wantsL (ts++[t])).length+1<=bl):Hd P nb fr bl l q base (ts++[t]) [] k:=by
 have e0:∀i r,(wantsL (ts++[]))[i]?=some r->(wantsL (ts++[t]++[]))[i]?=some r:=fun i r hr=>by
  rw[List.append_nil]at hr ⊢
  have hi:=(List.getElem?_eq_some_iff.1 hr).1
  rw[take_get ⟨txRecs t,wantsL_snoc ts t⟩ hi]
  exact hr
 refine⟨h.life,by simp;omega,fun x hx=>?_,fun e=>absurd e hl0,by simpa using hf,by have:=h.kle;simp;omega,fun i hi v hv=>?_,fun i hi v hv=>?_,fun x hx v hv=>.inl (hh x hx v hv),.inl rfl⟩
 ·simp at hx
  rcases hx with hx | hx
  ·exact h.good x (by simp[hx])
  ·rw[hx];exact ht
 ·rcases h.log i hi v hv with ⟨r,hr,e⟩ | e
  ·exact .inl ⟨r,e0 i r hr,e⟩
  ·exact .inr e
 ·rw[List.take_append_of_le_length h.kle]at hi
  obtain⟨r,hr,e⟩:=h.dur i hi v hv
  exact⟨r,e0 i r hr,e⟩
theorem Hd.record{P:Nat->List Int->Prop}{nb fr:Nat}{base:Nat->List Int}{ts:List Tn}(h:Hd P nb fr bl l q base ts [] k)(hs:∀x v,P' x v->P x v\/∃i r,x=fr+1+i/\(wantsL ts)[i]?=some r/\v=stampZ r.1 (l:Int) r.2):Hd P' nb fr bl l q base ts [] k:=by
 have hfit:=h.fit
 rw[List.append_nil]at hfit
 refine⟨h.life,h.seq,h.good,h.zero,h.fit,h.kle,fun i hi v hv=>?_,fun i hi v hv=>?_,fun x hx v hv=>?_,.inl rfl⟩
 ·rcases hs _ v hv with e | ⟨i',r,e1,e2,e3⟩
  ·exact h.log i hi v e
  ·have:i=i':=by omega
   subst this
   exact .inl ⟨r,by rw[List.append_nil];exact e2,e3⟩
 ·rcases hs _ v hv with e | ⟨i',r,e1,e2,e3⟩
  ·exact h.dur i hi v e
  ·have:i=i':=by omega
   subst this
   exact⟨r,by rw[List.append_nil];exact e2,e3⟩
 ·rcases hs _ v hv with e | ⟨i',r,e1,e2,e3⟩
  ·exact h.home x hx v e
  ·have:=(List.getElem?_eq_some_iff.1 e2).1
   exact absurd ⟨by omega,by omega⟩ hx.2
end Go.Proofs.YtlefjidbpjkhlaaGreat
